/- The document's own reader of a tree's text: what it comes to. -/
import Derived.Test.YtlnlkbkmnkjbhaaDoorQb
import Derived.Deep.RegionHeld3
namespace Go.Proofs.YtlnlkbkmnkjbhaaDoor
open Go.RowKit

/-- What reading a tree comes to, where nothing panics. -/
def OPost (F : Nat) (w : World) : PR Tr → Ending → World → Prop
  | .ok d q, e, w' => (∃ va vc, e = .returned (.tuple #[.agg #[.int .i64 d.rule, .int .u8 (d.byte.toNat : Int), .slice va d.kids.length vc], .int .i64 (q : Int), .agg #[.int .i64 0, .int .i64 0]]) ∧ d.kids.length ≤ vc ∧ TIn w' (fun b => w.heap.size ≤ b ∧ b < w'.heap.size) F va d.kids) ∧ Below w.heap.size w w'
  | .bad q c, e, w' => (e = .returned (.tuple #[.agg #[.int .i64 0, .int .u8 0, .slice none 0 0], .int .i64 0, .agg #[.int .i64 (q : Int), .int .i64 (c : Int)]]) ∧ c ≠ 0) ∧ Below w.heap.size w w'
def OCalls (s : ByteArray) (f p m : Nat) (w : World) : Prop := Calls Tryd.prog 60 #[.string s, .int .i64 (p : Int), .int .i64 (m : Int)] w fun e w' => OPost f w (rt s f p m) e w'
/-- A node, read. -/
def rnode (s : ByteArray) (f p m : Nat) : PR Tr :=
  match rnum s p 8 p 0 with
  | .bad q c => .bad q c
  | .ok n q =>
    match rwant s q 40 with
    | .bad q c => .bad q c
    | .ok _ q =>
      match rk s f q (m + 1) [] with
      | .bad q c => .bad q c
      | .ok l q => .ok (.mk n 0 l) q
def NCalls (s : ByteArray) (f p m : Nat) (w : World) : Prop := Calls Tryd.prog 82 #[.string s, .int .i64 (p : Int), .int .i64 (m : Int)] w fun e w' => OPost (f + 1) w (rnode s f p m) e w'
theorem five (tb : Nat) (u0 u1 u2 v0 v1 : Value) (W X : World) {k0 k1 k2 m0 m1 : Value} (c0 : W.cell? ⟨tb, 0, none⟩ = some k0) (c1 : W.cell? ⟨tb, 1, none⟩ = some k1) (c2 : W.cell? ⟨tb, 2, none⟩ = some k2) (g0 : W.cell? ⟨tb + 1, 0, none⟩ = some m0) (g1 : W.cell? ⟨tb + 1, 1, none⟩ = some m1)
    (hX : X = ((((W.setCell ⟨tb, 0, none⟩ u0).setCell ⟨tb, 1, none⟩ u1).setCell ⟨tb, 2, none⟩ u2).setCell ⟨tb + 1, 0, none⟩ v0).setCell ⟨tb + 1, 1, none⟩ v1) :
    (X.cell? ⟨tb, 0, none⟩ = some u0 ∧ X.cell? ⟨tb, 1, none⟩ = some u1 ∧ X.cell? ⟨tb, 2, none⟩ = some u2 ∧ X.cell? ⟨tb + 1, 0, none⟩ = some v0 ∧ X.cell? ⟨tb + 1, 1, none⟩ = some v1) ∧ X.os = W.os ∧ X.tape = W.tape ∧ X.output = W.output ∧ X.heap.size = W.heap.size ∧ ∀ b, b ≠ tb → b ≠ tb + 1 → X.heap[b]? = W.heap[b]? := by
  obtain ⟨A1, e1⟩ : ∃ A, W.setCell ⟨tb, 0, none⟩ u0 = A := ⟨_, rfl⟩
  obtain ⟨A2, e2⟩ : ∃ A, A1.setCell ⟨tb, 1, none⟩ u1 = A := ⟨_, rfl⟩
  obtain ⟨A3, e3⟩ : ∃ A, A2.setCell ⟨tb, 2, none⟩ u2 = A := ⟨_, rfl⟩
  obtain ⟨A4, e4⟩ : ∃ A, A3.setCell ⟨tb + 1, 0, none⟩ v0 = A := ⟨_, rfl⟩
  obtain ⟨A5, e5⟩ : ∃ A, A4.setCell ⟨tb + 1, 1, none⟩ v1 = A := ⟨_, rfl⟩
  rw [e1, e2, e3, e4, e5] at hX
  subst hX
  obtain ⟨a1, b1, d1, o1, p1, q1, r1⟩ := set_step e1
  obtain ⟨a2, b2, d2, o2, p2, q2, r2⟩ := set_step e2
  obtain ⟨a3, b3, d3, o3, p3, q3, r3⟩ := set_step e3
  obtain ⟨a4, b4, d4, o4, p4, q4, r4⟩ := set_step e4
  obtain ⟨a5, b5, d5, o5, p5, q5, r5⟩ := set_step e5
  have cl : ∀ {X Y : World} {b : Nat} (q : Nat), Y.heap[b]? = X.heap[b]? → Y.cell? ⟨b, q, none⟩ = X.cell? ⟨b, q, none⟩ := fun q h => World.cell?_of_block (a := ⟨_, q, none⟩) h
  have hne : tb ≠ tb + 1 := by omega
  have hf : tb + 1 ≠ tb := by omega
  clear e1 e2 e3 e4 e5
  refine ⟨⟨?_, ?_, ?_, ?_, ?_⟩, o5.trans (o4.trans (o3.trans (o2.trans o1))), p5.trans (p4.trans (p3.trans (p2.trans p1))), q5.trans (q4.trans (q3.trans (q2.trans q1))), by omega, fun b h1 h2 => (a5 b h2).trans ((a4 b h2).trans ((a3 b h1).trans ((a2 b h1).trans (a1 b h1))))⟩
  · exact ((cl 0 (a5 tb hne)).trans ((cl 0 (a4 tb hne)).trans ((b3 0 (by omega)).trans (b2 0 (by omega))))).trans (d1 _ c0)
  · exact ((cl 1 (a5 tb hne)).trans ((cl 1 (a4 tb hne)).trans (b3 1 (by omega)))).trans (d2 _ ((b1 1 (by omega)).trans c1))
  · exact ((cl 2 (a5 tb hne)).trans (cl 2 (a4 tb hne))).trans (d3 _ ((b2 2 (by omega)).trans ((b1 2 (by omega)).trans c2)))
  · exact (b5 0 (by omega)).trans (d4 _ ((cl 0 (a3 _ hf)).trans ((cl 0 (a2 _ hf)).trans ((cl 0 (a1 _ hf)).trans g0))))
  · exact d5 _ ((b4 1 (by omega)).trans ((cl 1 (a3 _ hf)).trans ((cl 1 (a2 _ hf)).trans ((cl 1 (a1 _ hf)).trans g1))))
theorem two_cells {w W : World} (hb : Below (w.heap.size + 2) ((w.alloc (.cells #[.int .i64 0, .int .u8 0, .slice none 0 0] 27)).alloc (.cells #[.int .i64 0, .int .i64 0] 52)) W) : W.cell? ⟨w.heap.size, 0, none⟩ = some (.int .i64 0) ∧ W.cell? ⟨w.heap.size, 1, none⟩ = some (.int .u8 0) ∧ W.cell? ⟨w.heap.size, 2, none⟩ = some (.slice none 0 0) ∧ W.cell? ⟨w.heap.size + 1, 0, none⟩ = some (.int .i64 0) ∧ W.cell? ⟨w.heap.size + 1, 1, none⟩ = some (.int .i64 0) ∧ W.frozen? ⟨w.heap.size, 0, none⟩ = false ∧ W.frozen? ⟨w.heap.size, 1, none⟩ = false ∧ W.frozen? ⟨w.heap.size, 2, none⟩ = false ∧ W.frozen? ⟨w.heap.size + 1, 0, none⟩ = false ∧ W.frozen? ⟨w.heap.size + 1, 1, none⟩ = false := by
  have e0 : ((w.alloc (.cells #[.int .i64 0, .int .u8 0, .slice none 0 0] 27)).alloc (.cells #[.int .i64 0, .int .i64 0] 52)).heap[w.heap.size]? = some (.cells #[.int .i64 0, .int .u8 0, .slice none 0 0] 27) := by
    rw [Below.heap_alloc _ _ _ (by simp)]
    exact World.alloc_heap_new _ _
  have e1 : ((w.alloc (.cells #[.int .i64 0, .int .u8 0, .slice none 0 0] 27)).alloc (.cells #[.int .i64 0, .int .i64 0] 52)).heap[w.heap.size + 1]? = some (.cells #[.int .i64 0, .int .i64 0] 52) := by
    have := World.alloc_heap_new (w.alloc (.cells #[.int .i64 0, .int .u8 0, .slice none 0 0] 27)) (.cells #[.int .i64 0, .int .i64 0] 52)
    simpa using this
  have k0 := (hb.block w.heap.size (by omega)).trans e0
  have k1 := (hb.block (w.heap.size + 1) (by omega)).trans e1
  refine ⟨?_, ?_, ?_, ?_, ?_, ?_, ?_, ?_, ?_, ?_⟩ <;> simp [World.cell?, World.frozen?, k0, k1]
/-- Both results are written last. -/
theorem five_below {w W X : World} {u0 u1 u2 v0 v1 : Value} (hb : Below (w.heap.size + 2) ((w.alloc (.cells #[.int .i64 0, .int .u8 0, .slice none 0 0] 27)).alloc (.cells #[.int .i64 0, .int .i64 0] 52)) W) (hX : X = ((((W.setCell ⟨w.heap.size, 0, none⟩ u0).setCell ⟨w.heap.size, 1, none⟩ u1).setCell ⟨w.heap.size, 2, none⟩ u2).setCell ⟨w.heap.size + 1, 0, none⟩ v0).setCell ⟨w.heap.size + 1, 1, none⟩ v1) :
    (X.cell? ⟨w.heap.size, 0, none⟩ = some u0 ∧ X.cell? ⟨w.heap.size, 1, none⟩ = some u1 ∧ X.cell? ⟨w.heap.size, 2, none⟩ = some u2 ∧ X.cell? ⟨w.heap.size + 1, 0, none⟩ = some v0 ∧ X.cell? ⟨w.heap.size + 1, 1, none⟩ = some v1) ∧ Below w.heap.size w X ∧ X.heap.size = W.heap.size ∧ ∀ b, b ≠ w.heap.size → b ≠ w.heap.size + 1 → X.heap[b]? = W.heap[b]? := by
  obtain ⟨t0, t1, t2, g0, g1, _⟩ := two_cells hb
  obtain ⟨hcells, o, t, ou, sz, bl⟩ := five w.heap.size u0 u1 u2 v0 v1 W X t0 t1 t2 g0 g1 hX
  have hB : Below w.heap.size w ((w.alloc (.cells #[.int .i64 0, .int .u8 0, .slice none 0 0] 27)).alloc (.cells #[.int .i64 0, .int .i64 0] 52)) := ((Below.refl _ _).alloc (Nat.le_refl _) _).alloc (by simp) _
  have hB2 := hB.trans (hb.mono (by omega))
  exact ⟨hcells, ⟨o.trans hB2.os, t.trans hB2.tape, ou.trans hB2.output, by have := hB2.size; omega, fun b hlt => (bl b (by omega) (by omega)).trans (hB2.block b hlt)⟩, sz, bl⟩
set_option maxRecDepth 100000 in
set_option maxHeartbeats 4000000 in
theorem one_short (s : ByteArray) (f m : Nat) (w : World) : OCalls s (f + 1) s.size m w := by
  have HR : Hid (rt s (f + 1) s.size m = .bad s.size 14) := by show _ = _; rw [rt]; rw [if_pos (Nat.le_refl _)]
  unfold OCalls
  go_enter Tryd.func60, Tryd.ntmps60
  go_wp2
  refine bodyPost_ret (v := .tuple #[.agg #[.int .i64 0, .int .u8 0, .slice none 0 0], .int .i64 0, .agg #[.int .i64 (s.size : Int), .int .i64 14]]) (by simp [results, Tryd.results60, go_sem]) rfl ?_
  rw [HR.out]
  exact ⟨⟨rfl, by omega⟩, ((Below.refl _ _).alloc (Nat.le_refl _) _).alloc (by simp) _⟩
set_option maxRecDepth 100000 in
set_option maxHeartbeats 4000000 in
theorem one_byte (s : ByteArray) (f p m : Nat) (w : World) (hp : p < s.size) (h1 : bt s p ≠ 120) (h2 : digq (bt s p) = false) : OCalls s (f + 1) p m w := by
  have HR : Hid (rt s (f + 1) p m = .bad p 11) := by show _ = _; rw [rt]; rw [if_neg (by omega), if_pos ⟨h1, h2⟩]
  have hpI : (p : Int) < (s.size : Int) := by omega
  have hnp : ¬ ((s.size : Int) ≤ (p : Int)) := by omega
  have hget := bt_eq s p hp
  have hc := bt_lt s p
  generalize bt s p = c at *
  have hne : ((c : Int) != 120) = true := by simp; omega
  unfold OCalls
  by_cases h48 : 48 ≤ c
  · have h57 : ¬ c ≤ 57 := fun h => by simp [digq, h48, h] at h2
    have a1 : (48 : Int) ≤ (c : Int) := by omega
    have a2 : ¬ (c : Int) ≤ 57 := by omega
    clear h1 h2 hc h48 h57
    go_enter Tryd.func60, Tryd.ntmps60
    go_wp2
    refine bodyPost_ret (v := .tuple #[.agg #[.int .i64 0, .int .u8 0, .slice none 0 0], .int .i64 0, .agg #[.int .i64 (p : Int), .int .i64 11]]) (by simp [results, Tryd.results60, go_sem]) rfl ?_
    rw [HR.out]
    exact ⟨⟨rfl, by omega⟩, ((Below.refl _ _).alloc (Nat.le_refl _) _).alloc (by simp) _⟩
  · have a1 : ¬ (48 : Int) ≤ (c : Int) := by omega
    clear h1 h2 hc h48
    go_enter Tryd.func60, Tryd.ntmps60
    go_wp2
    refine bodyPost_ret (v := .tuple #[.agg #[.int .i64 0, .int .u8 0, .slice none 0 0], .int .i64 0, .agg #[.int .i64 (p : Int), .int .i64 11]]) (by simp [results, Tryd.results60, go_sem]) rfl ?_
    rw [HR.out]
    exact ⟨⟨rfl, by omega⟩, ((Below.refl _ _).alloc (Nat.le_refl _) _).alloc (by simp) _⟩
set_option maxRecDepth 100000 in
set_option maxHeartbeats 4000000 in
theorem one_deep (s : ByteArray) (f p m : Nat) (w : World) (hp : p < s.size) (h1 : bt s p = 120 ∨ digq (bt s p) = true) (h2 : 200 < m) : OCalls s (f + 1) p m w := by
  have HR : Hid (rt s (f + 1) p m = .bad p 2) := by
    show _ = _
    rw [rt, if_neg (by omega), if_neg ?_, if_pos h2]
    rintro ⟨a, b⟩
    rcases h1 with h1 | h1
    · exact a h1
    · rw [h1] at b; cases b
  have hpI : (p : Int) < (s.size : Int) := by omega
  have hnp : ¬ ((s.size : Int) ≤ (p : Int)) := by omega
  have hmI : (200 : Int) < (m : Int) := by omega
  have hget := bt_eq s p hp
  generalize bt s p = c at *
  unfold OCalls
  rcases h1 with h1 | h1
  · have a1 : (48 : Int) ≤ (c : Int) := by omega
    have a2 : ¬ (c : Int) ≤ 57 := by omega
    have hne : ((c : Int) != 120) = false := by simp; omega
    clear h1 h2
    go_enter Tryd.func60, Tryd.ntmps60
    go_wp2
    refine bodyPost_ret (v := .tuple #[.agg #[.int .i64 0, .int .u8 0, .slice none 0 0], .int .i64 0, .agg #[.int .i64 (p : Int), .int .i64 2]]) (by simp [results, Tryd.results60, go_sem]) rfl ?_
    rw [HR.out]
    exact ⟨⟨rfl, by omega⟩, ((Below.refl _ _).alloc (Nat.le_refl _) _).alloc (by simp) _⟩
  · simp [digq] at h1
    have a1 : (48 : Int) ≤ (c : Int) := by omega
    have a2 : (c : Int) ≤ 57 := by omega
    have hne : ((c : Int) != 120) = true := by simp; omega
    clear h1 h2
    go_enter Tryd.func60, Tryd.ntmps60
    go_wp2
    refine bodyPost_ret (v := .tuple #[.agg #[.int .i64 0, .int .u8 0, .slice none 0 0], .int .i64 0, .agg #[.int .i64 (p : Int), .int .i64 2]]) (by simp [results, Tryd.results60, go_sem]) rfl ?_
    rw [HR.out]
    exact ⟨⟨rfl, by omega⟩, ((Below.refl _ _).alloc (Nat.le_refl _) _).alloc (by simp) _⟩
theorem rt_node (s : ByteArray) (f p m : Nat) (hp : p < s.size) (h1 : digq (bt s p) = true) (h2 : m ≤ 200) : rt s (f + 1) p m = rnode s f p m := by
  have h3 : bt s p ≠ 120 := fun h => by rw [h] at h1; cases h1
  rw [rt, if_neg (by omega), if_neg (fun h => by rw [h1] at h; cases h.2), if_neg (by omega), if_neg h3]
  rfl
set_option maxRecDepth 100000 in
set_option maxHeartbeats 4000000 in
theorem one_node (s : ByteArray) (f p m : Nat) (w : World) (hp : p < s.size) (h1 : digq (bt s p) = true) (h2 : m ≤ 200) (HN : ∀ w, NCalls s f p m w) : OCalls s (f + 1) p m w := by
  have HR : Hid (rt s (f + 1) p m = rnode s f p m) := rt_node s f p m hp h1 h2
  have HB : Hid (Below w.heap.size w ((w.alloc (.cells #[.int .i64 0, .int .u8 0, .slice none 0 0] 27)).alloc (.cells #[.int .i64 0, .int .i64 0] 52))) := ((Below.refl _ _).alloc (Nat.le_refl _) _).alloc (by simp) _
  have HC : Hid _ := fun (_ : Unit) => HN ((w.alloc (.cells #[.int .i64 0, .int .u8 0, .slice none 0 0] 27)).alloc (.cells #[.int .i64 0, .int .i64 0] 52))
  unfold NCalls at HC
  have hpI : (p : Int) < (s.size : Int) := by omega
  have hnp : ¬ ((s.size : Int) ≤ (p : Int)) := by omega
  have hmI : ¬ (200 : Int) < (m : Int) := by omega
  have hget := bt_eq s p hp
  generalize bt s p = c at *
  simp [digq] at h1
  have a1 : (48 : Int) ≤ (c : Int) := by omega
  have a2 : (c : Int) ≤ 57 := by omega
  have hne : ((c : Int) != 120) = true := by simp; omega
  unfold OCalls
  clear h1 h2 HN
  cases hr : rnode s f p m with
  | bad q k =>
    rw [hr] at HC HR
    go_enter Tryd.func60, Tryd.ntmps60
    go_wp2_with (go_at_call 82; refine (HC.out ()).mono ?_; rintro e w5 ⟨⟨rfl, hk⟩, hb5⟩; obtain ⟨t0, t1, t2, g0, g1, z0, z1, z2, y0, y1⟩ := two_cells (w := w) (by simpa using hb5); have HB5 : Hid _ := hb5; clear hb5)
    obtain ⟨X, hX⟩ : ∃ X, ((((w5.setCell ⟨w.heap.size, 0, none⟩ (.int .i64 0)).setCell ⟨w.heap.size, 1, none⟩ (.int .u8 0)).setCell ⟨w.heap.size, 2, none⟩ (.slice none 0 0)).setCell ⟨w.heap.size + 1, 0, none⟩ (.int .i64 (q : Int))).setCell ⟨w.heap.size + 1, 1, none⟩ (.int .i64 (k : Int)) = X := ⟨_, rfl⟩
    obtain ⟨⟨x0, x1, x2, x3, x4⟩, xb, _⟩ := five_below (w := w) (by simpa using HB5.out) hX.symm
    rw [hX]
    refine bodyPost_ret (v := .tuple #[.agg #[.int .i64 0, .int .u8 0, .slice none 0 0], .int .i64 0, .agg #[.int .i64 (q : Int), .int .i64 (k : Int)]]) (by simp [results, Tryd.results60, go_sem, x0, x1, x2, x3, x4]) rfl ?_
    rw [HR.out]
    exact ⟨⟨rfl, hk⟩, xb⟩
  | ok d q =>
    rw [hr] at HC HR
    go_enter Tryd.func60, Tryd.ntmps60
    go_wp2_with (go_at_call 82; refine (HC.out ()).mono ?_; rintro e w5 ⟨⟨va, vc, rfl, hvc, htin⟩, hb5⟩; obtain ⟨t0, t1, t2, g0, g1, z0, z1, z2, y0, y1⟩ := two_cells (w := w) (by simpa using hb5); have HB5 : Hid _ := And.intro htin hb5; clear hb5 htin)
    obtain ⟨X, hX⟩ : ∃ X, ((((w5.setCell ⟨w.heap.size, 0, none⟩ (.int .i64 d.rule)).setCell ⟨w.heap.size, 1, none⟩ (.int .u8 (d.byte.toNat : Int))).setCell ⟨w.heap.size, 2, none⟩ (.slice va d.kids.length vc)).setCell ⟨w.heap.size + 1, 0, none⟩ (.int .i64 0)).setCell ⟨w.heap.size + 1, 1, none⟩ (.int .i64 0) = X := ⟨_, rfl⟩
    obtain ⟨htin, hb5⟩ := HB5.out
    obtain ⟨⟨x0, x1, x2, x3, x4⟩, xb, xs, xo⟩ := five_below (w := w) (by simpa using hb5) hX.symm
    rw [hX]
    refine bodyPost_ret (v := .tuple #[.agg #[.int .i64 d.rule, .int .u8 (d.byte.toNat : Int), .slice va d.kids.length vc], .int .i64 (q : Int), .agg #[.int .i64 0, .int .i64 0]]) (by simp [results, Tryd.results60, go_sem, x0, x1, x2, x3, x4]) rfl ?_
    rw [HR.out]
    have hs2 : ((w.alloc (.cells #[.int .i64 0, .int .u8 0, .slice none 0 0] 27)).alloc (.cells #[.int .i64 0, .int .i64 0] 52)).heap.size = w.heap.size + 2 := by simp
    rw [hs2] at htin
    refine ⟨⟨va, vc, rfl, hvc, ?_⟩, xb⟩
    exact ((htin.keep (fun b hb q => World.cell?_of_block (a := ⟨b, q, none⟩) (xo b (by omega) (by omega)))).wide (fun b hb => ⟨by omega, by omega⟩))
end Go.Proofs.YtlnlkbkmnkjbhaaDoor
