/- Going through a set's bytes: the iterator that All hands back tells the set's bytes, rising, to whatever loop goes over it. -/
import Derived.RangeFuncNested
import Derived.RangeFuncBound
import Derived.RangeFuncCalls
import Derived.RangeFuncLeaves
import Derived.RangeFuncBox
import Derived.Shelf.Abstract
import Derived.Shelf.RegionOpen
import Derived.WalkKit
import Derived.OwnWalkIn
import Derived.TacticsInMore
import Derived.LoopNIn
import Derived.LoopIn
import Derived.Maps.AppendAt
import Derived.Test.YtbbmjnhbmcbehaaW2
namespace Go.Proofs.Ytbbmjnhbmcbehaa
open Go.RowKit Go.Shelf

attribute [local go_sem] Oper.semAt_some

set_option maxRecDepth 100000 in
set_option maxHeartbeats 400000 in
theorem has_exact (s : St) (n : Nat) (w : World) (hs : s.ok) (hn : n < 256) :
    Calls Try.prog 87 #[.agg #[.int .u64 s.a, .int .u64 s.b, .int .u64 s.c, .int .u64 s.d], .int .u8 n] w fun e w' => e = .returned (.bool (s.has n)) ∧ w' = w.alloc (.cells #[.int .u64 s.a, .int .u64 s.b, .int .u64 s.c, .int .u64 s.d] 33) := by
  have hg := s.get (n / 64) (by omega)
  have hl := s.w_lt hs (n / 64)
  have H : Hid (s.has n = (s.w (n / 64)).testBit (n % 64)) := rfl
  generalize s.w (n / 64) = x at *
  have H2 : Hid ((bits .and .u64 ((x : Int) / 2 ^ (n % 64)) 1 == 1) = x.testBit (n % 64)) := has_bit x _ hl
  go_enter Try.func87, Try.ntmps87
  go_wp2
  go_ret
  exact ⟨ret_bool (by rw [H2.out, H.out]), rfl⟩

def upTo (s : St) : Nat → List (Fin 256)
  | 0 => []
  | k + 1 => if s.has k then upTo s k ++ [Fin.ofNat 256 k] else upTo s k
theorem upTo_yes {s : St} {k : Nat} (h : s.has k = true) : upTo s (k + 1) = upTo s k ++ [Fin.ofNat 256 k] := by simp [upTo, h]
theorem upTo_no {s : St} {k : Nat} (h : s.has k = false) : upTo s (k + 1) = upTo s k := by simp [upTo, h]
theorem upTo_len (s : St) : ∀ k, (upTo s k).length ≤ k
  | 0 => Nat.le_refl _
  | k + 1 => by
    have := upTo_len s k
    unfold upTo; split <;> simp <;> omega

def SBox (s : St) (B : Nat) (W : World) : Prop := W.heap[B]? = some (.cells #[.int .u64 s.a, .int .u64 s.b, .int .u64 s.c, .int .u64 s.d] 33 (0, 0))
theorem SBox.new (s : St) (W : World) : SBox s W.heap.size (W.alloc (.cells #[.int .u64 s.a, .int .u64 s.b, .int .u64 s.c, .int .u64 s.d] 33)) := World.alloc_heap_new W _
theorem SBox.lt {s : St} {B : Nat} {W : World} (h : SBox s B W) : B < W.heap.size := (Array.getElem?_eq_some_iff.1 h).1
theorem SBox.cells {s : St} {B : Nat} {W : World} (h : SBox s B W) : W.cell? ⟨B, 0, none⟩ = some (.int .u64 s.a) ∧ W.cell? ⟨B, 1, none⟩ = some (.int .u64 s.b) ∧ W.cell? ⟨B, 2, none⟩ = some (.int .u64 s.c) ∧ W.cell? ⟨B, 3, none⟩ = some (.int .u64 s.d) := by
  refine ⟨?_, ?_, ?_, ?_⟩ <;> simp [World.cell?, show W.heap[B]? = _ from h]
theorem SBox.kept {s : St} {B : Nat} {W W' : World} {row : Option Nat} (h : SBox s B W) (hg : W.grownBy W' row) (hne : some B ≠ row) : SBox s B W' := (hg.block B h.lt hne).trans h
theorem SBox.alloc {s : St} {B : Nat} {W : World} (h : SBox s B W) (o : Obj) : SBox s B (W.alloc o) := h.kept (World.grownBy_alloc W o none) (by simp)
theorem SBox.own {β : Type} (s : St) (B : Nat) : Own (fun (_ : β) W => SBox s B W) := by
  rintro b X Y row h hg hrow
  refine h.kept hg (fun e' => ?_)
  obtain ⟨o, ho, hc⟩ := hrow B e'.symm
  rw [show X.heap[B]? = _ from h] at ho; cases ho; cases hc
theorem SBox.not_row {s : St} {B : Nat} {W : World} (h : SBox s B W) {e : TypeId} (hte : (33 : TypeId) ≠ e) {base size k : Nat} {v : Value} {xs : List Value} (hr : W.ownsRow base e size v k xs) : some B ≠ v.ownBlock := by
  rcases hr.2 with ⟨rfl, _⟩ | ⟨g, cap, cur, rfl, _, hgb, _⟩
  · simp [Value.ownBlock]
  · intro e'
    obtain rfl : B = g := by simpa [Value.ownBlock] using e'
    have := (show W.heap[B]? = _ from h).symm.trans hgb
    simp at this
    exact hte this.2
theorem SBox.not_box {s : St} {B B' : Nat} {W : World} (h : SBox s B W) {t : TypeId} {v : Value} (hb : Boxed W B' t v) : B ≠ B' := by
  intro e; subst e
  have := (show W.heap[B]? = _ from h).symm.trans hb
  simp at this
/-- What a round keeps: what lay below n₀, and the box of the set. -/
def KeepB (s : St) (n₀ B : Nat) (W W' : World) : Prop := Below n₀ W W' ∧ (SBox s B W → SBox s B W')
theorem keepB_t {s : St} {n₀ B : Nat} {X Y Z : World} (h : KeepB s n₀ B X Y) (k : KeepB s n₀ B Y Z) : KeepB s n₀ B X Z := ⟨h.1.trans k.1, fun q => k.2 (h.2 q)⟩
theorem keepB_b {s : St} {n₀ B : Nat} {w : World} (hn : n₀ ≤ w.heap.size) (W : World) (l : Nat) (o o' : Obj) (hl : w.heap.size ≤ l) (h : W.heap[l]? = some o) (hc : o.isCells = false) (hw : o.isWalk = false) : KeepB s n₀ B W (W.putObj l o') :=
  ⟨belowK_b hn W l o o' hl h hc hw, fun q => q.kept (grownBy_putObj' W l o') (fun e => by
    cases e
    rw [show W.heap[B]? = _ from q] at h; cases h; cases hc)⟩

set_option maxRecDepth 100000 in
set_option maxHeartbeats 2000000 in
theorem all1_in (n : Nat) (hn : 1 ≤ n) (l Bs n₀ : Nat) (s : St) (hs : s.ok) (J Jx : List (Fin 256) → World → Prop) (W : World) (hn₀ : n₀ ≤ W.heap.size) (hJ : AbidesFrom W.heap.size J)
    (hY : ∀ pre x W1, J pre W1 → pre.length < 256 → YieldAt Fence.wide (n - 1) Try.prog l #[.int .u8 (x.val : Int)] W1 fun e W' =>
      (e = .returned (.bool true) ∧ J (pre ++ [x]) W' ∧ KeepB s n₀ Bs W1 W') ∨ (e = .returned (.bool false) ∧ Jx (pre ++ [x]) W'))
    (hbox : SBox s Bs W) (h0 : J [] W) :
    CallsIn Fence.wide n Try.prog 86 #[.func (.yield l) #[] #[], .pointer (some ⟨Bs, 0, none⟩)] W fun e W' => (∃ v, e = .returned v) ∧
      ((∃ ys, ys = upTo s 256 ∧ J ys W') ∨ (∃ pre, (∃ k, k ≤ 256 ∧ pre = upTo s k) ∧ Jx pre W')) := by
  refine callsIn_of_wp Try.func86 rfl trivial ?_ rfl
  simp only [Try.ntmps86, List.size_toArray, List.length_cons, List.length_nil, Nat.reduceAdd, Nat.reduceSub, Array.replicate_succ, Array.replicate_zero, List.push_toArray, List.append_toArray, List.nil_append, List.cons_append]
  gi_wp2
  gi_loopw [4] (fun i wr => ∃ k : Nat, k ≤ 256 ∧ i = .int .i64 k ∧ J (upTo s k) wr ∧ SBox s Bs wr ∧ n₀ ≤ wr.heap.size)
    (fun i _ => 256 - (intOf i).toNat)
  case atStart => exact ⟨0, Nat.zero_le _, rfl, h0, hbox, hn₀⟩
  case round =>
    obtain ⟨k, hk, rfl, hJs, hbx, hsz⟩ := hrel
    obtain ⟨e0, e1, e2, e3⟩ := hbx.cells
    by_cases hlt : k < 256
    · have hJ2 : J (upTo s k) (wr.alloc (.cells #[.int .u64 s.a, .int .u64 s.b, .int .u64 s.c, .int .u64 s.d] 33)) := hJ _ _ _ none hJs (World.grownBy_alloc _ _ none) (by simp)
      have hb2 := hbx.alloc (.cells #[.int .u64 s.a, .int .u64 s.b, .int .u64 s.c, .int .u64 s.d] 33)
      have hval : (Fin.ofNat 256 k).val = k := by simp [Fin.ofNat]; omega
      obtain ⟨fn, tmps, assign, body, hy, hR⟩ := hY _ (Fin.ofNat 256 k) _ hJ2 (by have := upTo_len s k; omega)
      rw [hval] at hy
      have HH : Hid _ := fun w => has_exact s k w hs hlt
      cases hh : s.has k with
      | true =>
        rw [hh] at HH
        have EY : Hid _ := upTo_yes hh
        clear hh
        gi_wp2_with (refine ⟨trivial, ?_⟩; gi_at_call 87; refine (callsIn_wide.2 (HH.out _)).mono ?_; rintro e w' ⟨rfl, rfl⟩)
        refine hR.mono ?_
        rintro e W3 (⟨rfl, hJ3, hk3⟩ | ⟨rfl, hJx3⟩)
        · gi_wp2
          go_roundw
          case rel => exact ⟨k + 1, by omega, by simp, by rw [EY.out]; exact hJ3, hk3.2 hb2, by have := hk3.1.size; simp at this; omega⟩
          case measure => simp [intOf]; omega
        · gi_wp2
          refine bodyPost_ret (results_none rfl _ _ _) rfl ?_
          exact ⟨⟨_, rfl⟩, .inr ⟨_, ⟨k + 1, by omega, EY.out.symm⟩, hJx3⟩⟩
      | false =>
        rw [hh] at HH
        have EY : Hid _ := upTo_no hh
        clear hh hy hR
        gi_wp2_with (refine ⟨trivial, ?_⟩; gi_at_call 87; refine (callsIn_wide.2 (HH.out _)).mono ?_; rintro e w' ⟨rfl, rfl⟩)
        refine ⟨fun _ h => (by cases h), ?_⟩
        gi_wp2
        go_roundw
        case rel => exact ⟨k + 1, by omega, by simp, by rw [EY.out]; exact hJ2, hb2, by simp; omega⟩
        case measure => simp [intOf]; omega
    · obtain rfl : k = 256 := by omega
      gi_wp2
      go_end0
      exact ⟨⟨_, rfl⟩, .inl ⟨_, rfl, hJs⟩⟩

set_option maxRecDepth 100000 in
set_option maxHeartbeats 1000000 in
theorem all_any (s : St) (w : World) :
    Calls Try.prog 73 #[.agg #[.int .u64 s.a, .int .u64 s.b, .int .u64 s.c, .int .u64 s.d]] w fun e w' => e = .returned (.func (.func 86) #[] #[.pointer (some ⟨w.heap.size, 0, none⟩)]) ∧ w' = w.alloc (.cells #[.int .u64 s.a, .int .u64 s.b, .int .u64 s.c, .int .u64 s.d] 33) := by
  go_enter Try.func73, Try.ntmps73
  go_wp2
  go_ret
  exact ⟨rfl, rfl⟩

theorem all_stops (n : Nat) (hn : 1 ≤ n) (Bs n₀ : Nat) (s : St) (hs : s.ok) (w : World) (hn₀ : n₀ ≤ w.heap.size) (hc : SBox s Bs w) :
    SeqStopsK Fence.wide n Try.prog 86 #[.pointer (some ⟨Bs, 0, none⟩)] (fun x : Fin 256 => #[Value.int .u8 (x.val : Int)]) (KeepB s n₀ Bs) (fun ys => ys = upTo s 256) (fun pre => ∃ k, k ≤ 256 ∧ pre = upTo s k) 256 w := fun l J Jx W hW hJ _ hY h0 =>
  all1_in n hn l Bs n₀ s hs J Jx W (Nat.le_trans hn₀ hW.size) hJ hY ((hW.block Bs hc.lt).trans hc) h0

end Go.Proofs.Ytbbmjnhbmcbehaa
