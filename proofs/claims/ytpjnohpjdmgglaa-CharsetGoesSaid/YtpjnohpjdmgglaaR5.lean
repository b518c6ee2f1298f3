/- The document's own answer Bytes: a set's bytes, rising, in a slice of its own. -/
import Derived.Test.YtpjnohpjdmgglaaR2
import Derived.Test.YtpjnohpjdmgglaaW8
namespace Go.Proofs.Ytpjnohpjdmgglaa
open Go.RowKit

theorem row_below {B : Nat} {e : TypeId} {k : Nat} {v : Value} {n : Nat} {xs : List Value} {W W' : World} (h : W.ownsRow B e k v n xs) (hb : Below W.heap.size W W') : W'.ownsRow B e k v n xs := by
  refine ⟨h.1, ?_⟩
  rcases h.2 with h0 | ⟨g, cap, cur, hv, hbg, hg, rest⟩
  · exact .inl h0
  · exact .inr ⟨g, cap, cur, hv, hbg, (hb.block g (heap_lt hg)).trans hg, rest⟩
def bcells (l : List (Fin 256)) : List Value := l.map fun x => .int .u8 (x.val : Int)

set_option maxRecDepth 100000 in
set_option maxHeartbeats 2000000 in
theorem rbytes_any (s : St) (hs : s.ok) (w : World) :
    Calls Try.prog 23 #[.agg #[.int .u64 s.a, .int .u64 s.b, .int .u64 s.c, .int .u64 s.d]] w fun e w' => ∃ v, e = .returned v ∧ w'.ownsRow w.heap.size 5 1 v (upTo s 256).length (bcells (upTo s 256)) ∧ Below w.heap.size w w' := by
  obtain ⟨i0, hi, hz0, hz1, hz2⟩ := info_parts info5
  have b0 := SBox.new s w
  have hB0 : Below w.heap.size w (w.alloc (.cells #[.int .u64 s.a, .int .u64 s.b, .int .u64 s.c, .int .u64 s.d] 26)) := (Below.refl _ _).alloc (Nat.le_refl _) _
  go_enter Try.func23, Try.ntmps23
  go_wp2
  go_loopw [3, 4] (fun v i wr => ∃ k : Nat, k ≤ 256 ∧ i = .int .i64 k ∧ wr.ownsRow w.heap.size 5 1 v (upTo s k).length (bcells (upTo s k)) ∧ SBox s w.heap.size wr ∧ Below w.heap.size w wr) (fun _ i _ => 256 - (intOf i).toNat)
  case atStart => exact ⟨0, by omega, rfl, World.ownsRow_nil _ _ _ _, b0, hB0⟩
  case round =>
    obtain ⟨k, hk, rfl, hrow, hbx, hB⟩ := hrel
    clear b0 hB0
    obtain ⟨e0, e1, e2, e3⟩ := hbx.cells
    by_cases hlt : k < 256
    · have HH : Hid _ := fun w => rhas_any s k w hs hlt
      have hlen := upTo_len s k
      have hval : (Fin.ofNat 256 k).val = k := by simp [Fin.ofNat]; omega
      cases hh : s.has k with
      | true =>
        rw [hh] at HH
        have EY : Hid (bcells (upTo s (k + 1)) = bcells (upTo s k) ++ [.int .u8 (k : Int)]) := by
          show _ = _
          rw [upTo_yes hh]; unfold bcells; rw [List.map_append, List.map_singleton, hval]
        have EL : Hid ((upTo s (k + 1)).length = (upTo s k).length + 1) := by show _ = _; rw [upTo_yes hh]; simp
        clear hh hval
        generalize bcells (upTo s k) = bs at *
        generalize (upTo s k).length = n at *
        go_wp2_with (go_at_call 15; refine (HH.out _).mono ?_)
        rintro e w1 ⟨rfl, hb1⟩
        have hrow1 := row_below hrow hb1
        have hbx1 := hbx.below hb1
        have hB1 := below_of hB hb1
        go_wp2_with (at_builtin; refine wpList_append_own _ rfl _ _ 22 rfl w.heap.size 5 i0 (.int .u8 0) 1 1 Try.underlying22 hi hz0 hz1 hz2 rfl (by decide) _ _ _ rfl (hrow1.alloc _) ⟨w1.heap.size, 0, none⟩ 1 1 [.int .u8 k] rfl rfl ?c1 ?c2 ?c3 ?c4 ?c5 ?_)
        case c1 => exact cell_one_new _ _ _
        case c2 => intro u hu; simp at hu; subst hu; rfl
        case c3 => unfold maxLen; omega
        case c4 => omega
        case c5 => have := hB1.size; simp; omega
        intro v' w2 hown' hgrow _
        have hbx2 := (hbx1.alloc (.cells #[.int .u8 (k : Int)] 5)).kept hgrow (hbx1.not_row (by decide) hrow1)
        have hB2 := (hB1.alloc hB1.size (.cells #[.int .u8 (k : Int)] 5)).grown hgrow (by have := hB1.size; simp; omega) (fun j hj => (hrow1.lt j hj).1)
        obtain ⟨g', cap', rfl⟩ := ownsRow_succ hown'
        go_wp2
        exact ⟨⟨k + 1, by omega, by go_num, by rw [EY.out, EL.out]; exact hown', hbx2, hB2⟩, by simp [intOf]; omega⟩
      | false =>
        rw [hh] at HH
        have EY : Hid _ := upTo_no hh
        clear hh hval
        go_wp2_with (go_at_call 15; refine (HH.out _).mono ?_)
        rintro e w1 ⟨rfl, hb1⟩
        have hrow1 := row_below hrow hb1
        have hbx1 := hbx.below hb1
        have hB1 := below_of hB hb1
        go_wp2
        exact ⟨⟨k + 1, by omega, by go_num, by rw [EY.out]; exact hrow1, hbx1, hB1⟩, by simp [intOf]; omega⟩
    · obtain rfl : k = 256 := by omega
      go_wp2
      go_ret
      exact ⟨_, rfl, hrow, hB⟩

end Go.Proofs.Ytpjnohpjdmgglaa
