/- The law TreesReads, walked. -/
import Derived.Test.YtlnlkbkmnkjbhaaDoorN4
import Derived.Test.YtlnlkbkmnkjbhaaDoorEe
import Derived.Test.YtlnlkbkmnkjbhaaDoorLl
namespace Go.Proofs.YtlnlkbkmnkjbhaaDoor
open Go.RowKit

/-- What is read: the tree, or none. -/
def pvT : PR Tr → Tr | .ok d _ => d | .bad _ _ => .mk 0 0 []
def pvQ : PR Tr → Nat | .ok _ _ => 0 | .bad q _ => q
def pvC : PR Tr → Nat | .ok _ _ => 0 | .bad _ c => c
theorem PPost.uni {F : Nat} {w : World} {r : PR Tr} {e : Ending} {w' : World} (h : PPost (F + 1) w r e w') : (∃ va vc, e = .returned (.tuple #[.agg #[.int .i64 (pvT r).rule, .int .u8 ((pvT r).byte.toNat : Int), .slice va (pvT r).kids.length vc], .agg #[.int .i64 (pvQ r : Int), .int .i64 (pvC r : Int)]]) ∧ (pvT r).kids.length ≤ vc ∧ TIn w' (fun b => w.heap.size ≤ b ∧ b < w'.heap.size) (F + 1) va (pvT r).kids) ∧ Below w.heap.size w w' := by
  cases r with
  | ok d q => exact h
  | bad q c => exact ⟨⟨none, 0, h.1, Nat.le_refl _, ⟨by show 0 * 40 ≤ _; omega, fun j d hj => by cases hj⟩⟩, h.2⟩
/-- A tree and a fault in boxes. -/
structure R1 (w : World) (d : Tr) (q c : Int) (f b : Nat) (va : Option Addr) (vc : Nat) (W : World) : Prop where
  bel : Below w.heap.size w W
  a0 : W.cell? ⟨b, 0, none⟩ = some (.int .i64 d.rule)
  a1 : W.cell? ⟨b, 1, none⟩ = some (.int .u8 (d.byte.toNat : Int))
  a2 : W.cell? ⟨b, 2, none⟩ = some (.slice va d.kids.length vc)
  f0 : W.cell? ⟨b + 1, 0, none⟩ = some (.int .i64 q)
  f1 : W.cell? ⟨b + 1, 1, none⟩ = some (.int .i64 c)
  ka : TAt W W.heap.size f va d.kids
  hc : d.kids.length ≤ vc
  lt : b + 1 < W.heap.size
section
variable {w : World} {d : Tr} {q c : Int} {f b : Nat} {va : Option Addr} {vc : Nat} {W W' : World}
theorem R1.nx (h : R1 w d q c f b va vc W) (hb : Below W.heap.size W W') : R1 w d q c f b va vc W' := by
  have hl := h.lt
  have k : ∀ b q, b < W.heap.size → W'.cell? ⟨b, q, none⟩ = W.cell? ⟨b, q, none⟩ := fun b q hlt => hb.cell (p := ⟨b, q, none⟩) hlt
  exact ⟨below_of h.bel hb, (k _ _ (by omega)).trans h.a0, (k _ _ (by omega)).trans h.a1, (k _ _ (by omega)).trans h.a2, (k _ _ (by omega)).trans h.f0, (k _ _ (by omega)).trans h.f1, (h.ka.keep hb).mono hb.size, h.hc, Nat.lt_of_lt_of_le hl hb.size⟩
theorem R1.facts (h : R1 w d q c f b va vc W) : W.cell? ⟨b, 0, none⟩ = some (.int .i64 d.rule) ∧ W.cell? ⟨b, 1, none⟩ = some (.int .u8 (d.byte.toNat : Int)) ∧ W.cell? ⟨b, 2, none⟩ = some (.slice va d.kids.length vc) ∧ W.cell? ⟨b + 1, 0, none⟩ = some (.int .i64 q) ∧ W.cell? ⟨b + 1, 1, none⟩ = some (.int .i64 c) := ⟨h.a0, h.a1, h.a2, h.f0, h.f1⟩
theorem R1.start {w3 : World} (hb : Below w.heap.size w w3) (hk : TAt w3 w3.heap.size f va d.kids) (hc : d.kids.length ≤ vc) : R1 w d q c f w3.heap.size va vc ((w3.alloc (.cells #[.int .i64 d.rule, .int .u8 (d.byte.toNat : Int), .slice va d.kids.length vc] 27)).alloc (.cells #[.int .i64 q, .int .i64 c] 52)) := by
  obtain ⟨w4, hw4⟩ : ∃ w4, w3.alloc (.cells #[.int .i64 d.rule, .int .u8 (d.byte.toNat : Int), .slice va d.kids.length vc] 27) = w4 := ⟨_, rfl⟩
  have hB4 : Below w3.heap.size w3 w4 := by rw [← hw4]; exact (Below.refl _ _).alloc (Nat.le_refl _) _
  have s4 : w4.heap.size = w3.heap.size + 1 := by rw [← hw4]; simp
  rw [hw4]
  have hB5 : Below w4.heap.size w4 (w4.alloc (.cells #[.int .i64 q, .int .i64 c] 52)) := (Below.refl _ _).alloc (Nat.le_refl _) _
  have k : ∀ j v, (#[.int .i64 d.rule, .int .u8 (d.byte.toNat : Int), .slice va d.kids.length vc] : Array Value)[j]? = some v → (w4.alloc (.cells #[.int .i64 q, .int .i64 c] 52)).cell? ⟨w3.heap.size, j, none⟩ = some v := fun j v hv => (hB5.cell (p := ⟨w3.heap.size, j, none⟩) (by show w3.heap.size < _; omega)).trans (by rw [← hw4]; exact cell_new j hv)
  have k' : ∀ j v, (#[.int .i64 q, .int .i64 c] : Array Value)[j]? = some v → (w4.alloc (.cells #[.int .i64 q, .int .i64 c] 52)).cell? ⟨w3.heap.size + 1, j, none⟩ = some v := fun j v hv => by rw [← s4]; exact cell_new j hv
  have hBB := hB4.trans (hB5.mono (by omega))
  exact ⟨below_of hb hBB, k 0 _ rfl, k 1 _ rfl, k 2 _ rfl, k' 0 _ rfl, k' 1 _ rfl, (hk.keep hBB).mono hBB.size, hc, by simp; omega⟩
end
set_option maxRecDepth 100000 in
set_option maxHeartbeats 8000000 in
theorem treesReads_walk (s : ByteArray) (w : World) (hs : s.size ≤ maxLen) (hTab : Tab w.heap.size w) :
    Calls Tryd.prog 8 #[.string s] w fun e w' => e = .returned (.bool true) ∧ Below w.heap.size w w' := by
  have HALV : Hid (∀ W, Below w.heap.size w W → Calls Tryd.prog 15 #[] W fun e w' => e = .returned (.bool true) ∧ Below W.heap.size W w') := fun W h => alive_any W (hTab.nx h)
  have HP1 : Hid (∀ W, Calls Tryd.prog 35 #[.string s] W fun e w' => (∃ va vc, e = .returned (.tuple #[.agg #[.int .i64 (pvT (rpar s)).rule, .int .u8 ((pvT (rpar s)).byte.toNat : Int), .slice va (pvT (rpar s)).kids.length vc], .agg #[.int .i64 (pvQ (rpar s) : Int), .int .i64 (pvC (rpar s) : Int)]]) ∧ (pvT (rpar s)).kids.length ≤ vc ∧ TIn w' (fun b => W.heap.size ≤ b ∧ b < w'.heap.size) (2 * s.size + 1 + 1) va (pvT (rpar s)).kids) ∧ Below W.heap.size W w') := fun W => (parse_any s W hs).mono (fun e w' h => h.uni)
  have HP2 : Hid (∀ W, Calls Tryd.prog 36 #[.string s] W fun e w' => (∃ va vc, e = .returned (.tuple #[.agg #[.int .i64 (pvT (rpar s)).rule, .int .u8 ((pvT (rpar s)).byte.toNat : Int), .slice va (pvT (rpar s)).kids.length vc], .agg #[.int .i64 (pvQ (rpar s) : Int), .int .i64 (pvC (rpar s) : Int)]]) ∧ (pvT (rpar s)).kids.length ≤ vc ∧ TIn w' (fun b => W.heap.size ≤ b ∧ b < w'.heap.size) (2 * s.size + 1 + 1) va (pvT (rpar s)).kids) ∧ Below W.heap.size W w') := fun W => (refParse_any s W hs).mono (fun e w' h => h.uni)
  generalize pvT (rpar s) = d at HP1 HP2
  generalize (pvQ (rpar s) : Int) = q at HP1 HP2
  generalize (pvC (rpar s) : Int) = c at HP1 HP2
  generalize 2 * s.size + 1 + 1 = f at HP1 HP2
  have HSM : Hid (∀ W (va xa : Option Addr) (vc xc : Nat), TAt W W.heap.size f va d.kids → TAt W W.heap.size f xa d.kids → Calls Tryd.prog 19 #[.agg #[.int .i64 d.rule, .int .u8 (d.byte.toNat : Int), .slice va d.kids.length vc], .agg #[.int .i64 d.rule, .int .u8 (d.byte.toNat : Int), .slice xa d.kids.length xc]] W fun e w' => e = .returned (.bool true) ∧ Below W.heap.size W w') := fun W va xa vc xc h1 h2 => by
    have := refSame_any f f d d va xa vc xc W h1 h2
    rw [eqT_true rfl] at this
    exact this
  unfold maxLen at hs
  by_cases h1 : 20000 < s.size ∧ s.size ≤ 65536
  · have a1 : (20000 : Int) < (s.size : Int) := by omega
    have a2 : (s.size : Int) ≤ 65536 := by omega
    clear h1 hTab hs
    go_enter Tryd.func8, Tryd.ntmps8
    go_wp2_with (go_at_call 15; refine (HALV.out _ (Below.refl _ _)).mono ?_; rintro e w3 ⟨rfl, hb3⟩)
    go_ret
    exact ⟨rfl, hb3⟩
  · by_cases h2 : 20000 < s.size
    · have a1 : (20000 : Int) < (s.size : Int) := by omega
      have a2 : ¬ (s.size : Int) ≤ 65536 := by omega
      clear h1 h2 hTab
      go_enter Tryd.func8, Tryd.ntmps8
      go_wp2_with (go_at_call 35; refine (HP1.out _).mono ?_)
      first | rintro e w3 va vc rfl hvc htin hb3 | rintro e w3 ⟨⟨va, vc, rfl, hvc, htin⟩, hb3⟩
      have HT3 : Hid _ := R1.start (q := q) (c := c) hb3 (htin.tat (fun b h => h.2)) hvc
      clear hb3 hvc htin
      go_wp2_with (go_at_call 36; refine (HP2.out _).mono ?_)
      first | rintro e w4 xa xc rfl hxc hxin hb4 | rintro e w4 ⟨⟨xa, xc, rfl, hxc, hxin⟩, hb4⟩
      have HT4 : Hid _ := HT3.out.nx hb4
      have HX4 : Hid _ := R1.start (q := q) (c := c) HT4.out.bel (hxin.tat (fun b h => h.2)) hxc
      have HT4' : Hid _ := HT4.out.nx (((Below.refl _ w4).alloc (Nat.le_refl _) (.cells #[.int .i64 d.rule, .int .u8 (d.byte.toNat : Int), .slice xa d.kids.length xc] 27)).alloc (by simp) (.cells #[.int .i64 q, .int .i64 c] 52))
      clear hb4 hxc hxin
      go_wp2_with (go_at_call 15; refine (HALV.out _ HX4.out.bel).mono ?_; rintro e w5 ⟨rfl, hb5⟩; have HT5 : Hid _ := HT4'.out.nx hb5; have HX5 : Hid _ := HX4.out.nx hb5; clear hb5; obtain ⟨e0, e1, e2, g0, g1⟩ := HT5.out.facts; obtain ⟨p0, p1, p2, r0, r1⟩ := HX5.out.facts)
      refine (HSM.out _ _ _ _ _ HT5.out.ka HX5.out.ka).mono ?_
      rintro e w6 ⟨rfl, hb6⟩
      have HT6 : Hid _ := HT5.out.nx hb6
      have HX6 : Hid _ := HX5.out.nx hb6
      clear hb6 e0 e1 e2 g0 g1 p0 p1 p2 r0 r1
      obtain ⟨e0, e1, e2, g0, g1⟩ := HT6.out.facts
      obtain ⟨p0, p1, p2, r0, r1⟩ := HX6.out.facts
      go_wp2
      go_ret
      exact ⟨by simp, HT6.out.bel⟩
    · have a1 : ¬ (20000 : Int) < (s.size : Int) := by omega
      clear h1 h2 hTab
      go_enter Tryd.func8, Tryd.ntmps8
      go_wp2_with (go_at_call 35; refine (HP1.out _).mono ?_)
      first | rintro e w3 va vc rfl hvc htin hb3 | rintro e w3 ⟨⟨va, vc, rfl, hvc, htin⟩, hb3⟩
      have HT3 : Hid _ := R1.start (q := q) (c := c) hb3 (htin.tat (fun b h => h.2)) hvc
      clear hb3 hvc htin
      go_wp2_with (go_at_call 36; refine (HP2.out _).mono ?_)
      first | rintro e w4 xa xc rfl hxc hxin hb4 | rintro e w4 ⟨⟨xa, xc, rfl, hxc, hxin⟩, hb4⟩
      have HT4 : Hid _ := HT3.out.nx hb4
      have HX4 : Hid _ := R1.start (q := q) (c := c) HT4.out.bel (hxin.tat (fun b h => h.2)) hxc
      have HT4' : Hid _ := HT4.out.nx (((Below.refl _ w4).alloc (Nat.le_refl _) (.cells #[.int .i64 d.rule, .int .u8 (d.byte.toNat : Int), .slice xa d.kids.length xc] 27)).alloc (by simp) (.cells #[.int .i64 q, .int .i64 c] 52))
      clear hb4 hxc hxin
      go_wp2_with (go_at_call 15; refine (HALV.out _ HX4.out.bel).mono ?_; rintro e w5 ⟨rfl, hb5⟩; have HT5 : Hid _ := HT4'.out.nx hb5; have HX5 : Hid _ := HX4.out.nx hb5; clear hb5; obtain ⟨e0, e1, e2, g0, g1⟩ := HT5.out.facts; obtain ⟨p0, p1, p2, r0, r1⟩ := HX5.out.facts)
      refine (HSM.out _ _ _ _ _ HT5.out.ka HX5.out.ka).mono ?_
      rintro e w6 ⟨rfl, hb6⟩
      have HT6 : Hid _ := HT5.out.nx hb6
      have HX6 : Hid _ := HX5.out.nx hb6
      clear hb6 e0 e1 e2 g0 g1 p0 p1 p2 r0 r1
      obtain ⟨e0, e1, e2, g0, g1⟩ := HT6.out.facts
      obtain ⟨p0, p1, p2, r0, r1⟩ := HX6.out.facts
      go_wp2
      go_ret
      exact ⟨by simp, HT6.out.bel⟩
end Go.Proofs.YtlnlkbkmnkjbhaaDoor
