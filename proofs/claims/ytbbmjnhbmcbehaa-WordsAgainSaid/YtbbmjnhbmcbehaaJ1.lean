/- Join, at the words of a text. -/
import Derived.Test.YtbbmjnhbmcbehaaN17
import Derived.Test.YtbbmjnhbmcbehaaP4
import Derived.Test.YtbbmjnhbmcbehaaN5
namespace Go.Proofs.Ytbbmjnhbmcbehaa
open Go.RowKit

theorem joinT_snoc : ∀ (ts : List (List UInt8)) (t : List UInt8), ts ≠ [] → joinT (ts ++ [t]) = joinT ts ++ 32 :: t
  | [], t, h => absurd rfl h
  | [u], t, _ => by simp [joinT]
  | u :: v :: ts, t, _ => by
    have := joinT_snoc (v :: ts) t (by simp)
    simp only [List.cons_append, joinT] at *
    rw [this, List.append_assoc, List.cons_append]
theorem sum_take_le (f : Wd × Value → Nat) : ∀ (l : List (Wd × Value)) (k : Nat), ((l.take k).map f).sum ≤ (l.map f).sum
  | [], k => by simp
  | a :: l, 0 => by simp
  | a :: l, k + 1 => by
    have := sum_take_le f l k
    simp only [List.take_succ_cons, List.map_cons, List.sum_cons]; omega
theorem le_sum (f : Wd × Value → Nat) : ∀ (l : List (Wd × Value)) (q : Wd × Value), q ∈ l → f q ≤ (l.map f).sum
  | a :: l, q, h => by
    simp only [List.map_cons, List.sum_cons]
    rcases List.mem_cons.1 h with rfl | h
    · omega
    · have := le_sum f l q h; omega
theorem BL.lt {B b : Nat} {l : List UInt8} {w : World} (h : BL B b l w) : b < w.heap.size := by
  rcases h with ⟨_, v, hbk, _⟩ | ⟨_, v, hbk, _⟩ <;> exact heap_lt hbk
/-- What has been written of the first k words. -/
def jn (Lu : List (Wd × Value)) (k : Nat) : List UInt8 := joinT ((Lu.take k).map fun q => q.1.text)
theorem jn_len (Lu : List (Wd × Value)) (k : Nat) (h1 : (Lu.map fun q => q.1.text.length).sum ≤ 20000) (h2 : Lu.length ≤ 20000) : (jn Lu k).length ≤ 40000 := by
  have a := join_len ((Lu.take k).map fun q => q.1.text)
  have b := sum_take_le (fun q => q.1.text.length) Lu k
  rw [List.map_map, List.length_map, List.length_take] at a
  have e : ((fun t : List UInt8 => t.length) ∘ fun q : Wd × Value => q.1.text) = fun q => q.1.text.length := rfl
  rw [e] at a
  unfold jn; omega
theorem jn_first {Lu : List (Wd × Value)} {q : Wd × Value} (h : Lu[0]? = some q) : jn Lu 1 = q.1.text := by
  cases Lu with
  | nil => simp at h
  | cons a l => simp at h; subst h; simp [jn, joinT]
theorem jn_next {Lu : List (Wd × Value)} {k : Nat} {q : Wd × Value} (h : Lu[k]? = some q) (hk : k ≠ 0) : jn Lu (k + 1) = jn Lu k ++ [32] ++ q.1.text := by
  have hl : k < Lu.length := (List.getElem?_eq_some_iff.1 h).1
  have hq : Lu[k] = q := (List.getElem?_eq_some_iff.1 h).2
  unfold jn
  rw [List.take_succ_eq_append_getElem hl, hq, List.map_append, List.map_cons, List.map_nil, joinT_snoc _ _ (by
    intro e
    have := congrArg List.length e
    rw [List.length_map, List.length_take, List.length_nil] at this; omega)]
  simp
set_option maxRecDepth 100000 in
set_option maxHeartbeats 4000000 in
theorem join_any (Lu : List (Wd × Value)) (qe : Wd × Value) (lv : Value) (base : Nat) (w : World) (h : Words w base lv (Lu ++ [qe])) (hk : ∀ q ∈ Lu, q.1.kind ≠ 7 ∧ q.1.text ≠ []) (he : qe.1.kind = 7) (h1 : (Lu.map fun q => q.1.text.length).sum ≤ 20000) (h2 : Lu.length ≤ 20000) :
    Calls Try.prog 26 #[lv] w fun e w' => e = .returned (.string ⟨(joinT (Lu.map fun q => q.1.text)).toArray⟩) ∧ Below w.heap.size w w' := by
  have b0 : BL w.heap.size w.heap.size [] (w.alloc (.cells #[.pointer none, .slice none 0 0] 62)) := Lib.fresh_isBuilder 62 5 w
  have hB0 : Below w.heap.size w (w.alloc (.cells #[.pointer none, .slice none 0 0] 62)) := (Below.refl _ _).alloc (Nat.le_refl _) _
  have hr := h.row
  rw [List.length_append, List.length_singleton] at hr
  obtain ⟨g, lc, rfl⟩ := ownsRow_succ hr
  clear hr
  have h2i : (Lu.length : Int) ≤ 20000 := by omega
  go_enter Try.func26, Try.ntmps26
  go_wp2
  go_loopw [4, 9] (fun fl i W => ∃ k : Nat, k ≤ Lu.length + 1 ∧ i = .int .i64 k ∧ (k ≤ Lu.length → fl = .bool (decide (k = 0))) ∧ (∃ bb, fl = .bool bb) ∧ BL w.heap.size w.heap.size (jn Lu k) W ∧ Below w.heap.size w W) (fun _ i _ => Lu.length + 1 - (intOf i).toNat)
  case atStart => exact ⟨0, Nat.zero_le _, rfl, fun _ => rfl, ⟨true, rfl⟩, by simpa [jn, joinT] using b0, hB0⟩
  case round =>
    clear b0 hB0
    obtain ⟨k, hk1, rfl, hfl, ⟨bb, rfl⟩, hb, hB⟩ := hrel
    by_cases hlt : k < Lu.length + 1
    · have hlt' : (k : Int) < (Lu.length : Int) + 1 := by omega
      obtain ⟨q, hq⟩ : ∃ q, (Lu ++ [qe])[k]? = some q := ⟨_, List.getElem?_eq_getElem (by simpa using hlt)⟩
      obtain ⟨g', cap', e', hg, hc⟩ := (h.after hB).cell hq
      rw [List.length_append, List.length_singleton] at e'
      cases e'
      have hrow := (h.after hB).bytes q (List.mem_of_getElem? hq)
      obtain ⟨va, vc, hv⟩ := row_slice hrow
      have c0 := hc 0 (by decide)
      have c1 := hc 1 (by decide)
      have c2 := hc 2 (by decide)
      have c3 := hc 3 (by decide)
      have c4 := hc 4 (by decide)
      have c5 := hc 5 (by decide)
      have c6 := hc 6 (by decide)
      have c7 := hc 7 (by decide)
      have c8 := hc 8 (by decide)
      have c9 := hc 9 (by decide)
      have c10 := hc 10 (by decide)
      simp only [wcell, List.getElem?_cons_zero, List.getElem?_cons_succ, Nat.add_zero, hv] at c0 c1 c2 c3 c4 c5 c6 c7 c8 c9 c10
      clear hc hrow
      have hsz := hB.size
      have hjl := jn_len Lu k h1 h2
      have hbl := hb.lt
      by_cases hkl : k < Lu.length
      · have hq' : Lu[k]? = some q := by rw [List.getElem?_append_left hkl] at hq; exact hq
        obtain ⟨hk7, htx⟩ := hk q (List.mem_of_getElem? hq')
        have hk7b : ((q.1.kind : Int) == 7) = false := beq_eq_false_iff_ne.2 (by omega)
        have htl : 0 < q.1.text.length := List.length_pos_iff.2 htx
        have htm := le_sum (fun q => q.1.text.length) Lu q (List.mem_of_getElem? hq')
        have hfb := hfl (by omega)
        simp only [Value.bool.injEq] at hfb
        subst hfb
        have HT1 : Hid (k ≠ 0 → jn Lu (k + 1) = jn Lu k ++ [32] ++ q.1.text) := fun hk0 => jn_next hq' hk0
        have HT0 : Hid (k = 0 → jn Lu (k + 1) = q.1.text ∧ jn Lu k = []) := fun hk0 => by subst hk0; exact ⟨jn_first hq', rfl⟩
        have hA : Below wr.heap.size wr (wr.alloc (.cells #[.int .i64 (q.1.kind : Int), .string ⟨q.1.text.toArray⟩, .slice va q.1.bytes.length vc, .int .u64 (q.1.set.a : Int), .int .u64 (q.1.set.b : Int), .int .u64 (q.1.set.c : Int), .int .u64 (q.1.set.d : Int), .int .i64 (q.1.n : Int), .int .i64 (q.1.fro : Int), .int .i64 (q.1.line : Int), .int .i64 (q.1.col : Int)] 35)) := (Below.refl _ _).alloc (Nat.le_refl _) _
        have hbA := hb.below hA
        have hBA := hB.alloc hsz (.cells #[.int .i64 (q.1.kind : Int), .string ⟨q.1.text.toArray⟩, .slice va q.1.bytes.length vc, .int .u64 (q.1.set.a : Int), .int .u64 (q.1.set.b : Int), .int .u64 (q.1.set.c : Int), .int .u64 (q.1.set.d : Int), .int .i64 (q.1.n : Int), .int .i64 (q.1.fro : Int), .int .i64 (q.1.line : Int), .int .i64 (q.1.col : Int)] 35)
        have hN := Blk.new wr 35 #[.int .i64 (q.1.kind : Int), .string ⟨q.1.text.toArray⟩, .slice va q.1.bytes.length vc, .int .u64 (q.1.set.a : Int), .int .u64 (q.1.set.b : Int), .int .u64 (q.1.set.c : Int), .int .u64 (q.1.set.d : Int), .int .i64 (q.1.n : Int), .int .i64 (q.1.fro : Int), .int .i64 (q.1.line : Int), .int .i64 (q.1.col : Int)]
        clear hq hq' hk h hfl htx hb
        by_cases hk0 : k = 0
        · obtain ⟨t1, t2⟩ := HT0.out hk0
          rw [t2] at hbA
          subst hk0
          have HW : Hid _ := fun (_ : Unit) => wstr_any w.heap.size w.heap.size [] q.1.text _ htl hbA (by simp; omega) hBA.size
          clear HT0 HT1 t2 hjl
          go_wp2_with (go_at_call 39; refine (HW.out ()).mono ?_)
          rintro e w2 ⟨rfl, hb2, hB2, -⟩
          go_wp2
          go_roundw
          case rel => exact ⟨1, by omega, rfl, fun _ => rfl, ⟨false, rfl⟩, by rw [t1]; exact hb2, hBA.trans hB2⟩
          case measure => simp [intOf]
        · have t1 := HT1.out hk0
          have hd : decide (k = 0) = false := by simpa using hk0
          rw [hd]
          have HWB : Hid _ := fun (_ : Unit) => wbyte_any w.heap.size w.heap.size (jn Lu k) 32 _ (by omega) hbA (by omega) hBA.size
          clear HT0 HT1 hd
          go_wp2_with (go_at_call 37; refine (HWB.out ()).mono ?_)
          rintro e w2 ⟨rfl, hb2, hB2, hK2⟩
          have hN2 : Blk w2 wr.heap.size 35 _ := hK2 wr.heap.size _ hN (by simp; omega) (by intro c fz e; cases e)
          have n1 := hN2.cell 1 (v := .string ⟨q.1.text.toArray⟩) rfl
          have ln := hN2.lt
          have hB3 := hBA.trans hB2
          have HW : Hid _ := fun (_ : Unit) => wstr_any w.heap.size w.heap.size _ q.1.text w2 htl hb2 (by rw [List.length_append, List.length_singleton]; omega) hB3.size
          go_wp2_with (go_at_call 39; refine (HW.out ()).mono ?_)
          rintro e w4 ⟨rfl, hb4, hB4, -⟩
          go_wp2
          go_roundw
          case rel => exact ⟨k + 1, by omega, by go_num, fun _ => by simp, ⟨false, rfl⟩, by rw [t1]; exact hb4, hB3.trans hB4⟩
          case measure => simp [intOf]; omega
      · obtain rfl : k = Lu.length := by omega
        have hqe : q = qe := by
          rw [List.getElem?_append_right (Nat.le_refl _)] at hq; simpa using hq.symm
        subst hqe
        rw [he] at c0
        have hA : Below wr.heap.size wr (wr.alloc (.cells #[.int .i64 ((7 : Nat) : Int), .string ⟨q.1.text.toArray⟩, .slice va q.1.bytes.length vc, .int .u64 (q.1.set.a : Int), .int .u64 (q.1.set.b : Int), .int .u64 (q.1.set.c : Int), .int .u64 (q.1.set.d : Int), .int .i64 (q.1.n : Int), .int .i64 (q.1.fro : Int), .int .i64 (q.1.line : Int), .int .i64 (q.1.col : Int)] 35)) := (Below.refl _ _).alloc (Nat.le_refl _) _
        have hbA := hb.below hA
        have hBA := hB.alloc hsz (.cells #[.int .i64 ((7 : Nat) : Int), .string ⟨q.1.text.toArray⟩, .slice va q.1.bytes.length vc, .int .u64 (q.1.set.a : Int), .int .u64 (q.1.set.b : Int), .int .u64 (q.1.set.c : Int), .int .u64 (q.1.set.d : Int), .int .i64 (q.1.n : Int), .int .i64 (q.1.fro : Int), .int .i64 (q.1.line : Int), .int .i64 (q.1.col : Int)] 35)
        have HJ : Hid (jn Lu (Lu.length + 1) = jn Lu Lu.length) := by
          show _ = _
          unfold jn; rw [List.take_of_length_le (by omega), List.take_length]
        clear hk1 hlt hkl hfl hk h hq
        go_wp2
        go_roundw
        case rel => exact ⟨Lu.length + 1, by omega, by go_num, fun h => by omega, ⟨_, rfl⟩, by rw [HJ.out]; exact hbA, hBA⟩
        case measure => simp [intOf]
    · obtain rfl : k = Lu.length + 1 := by omega
      have HS : Hid _ := fun (_ : Unit) => string_whole w.heap.size w.heap.size _ wr hb hB.size
      have HJ : Hid (jn Lu (Lu.length + 1) = joinT (Lu.map fun q => q.1.text)) := by
        show _ = _
        unfold jn; rw [List.take_of_length_le (by omega)]
      clear hk1 hlt hfl
      go_wp2_with (go_at_call 41; refine (HS.out ()).mono ?_)
      rintro e w2 ⟨rfl, hB2⟩
      go_wp2
      go_ret
      exact ⟨ret_str (by rw [HJ.out]), hB.trans hB2⟩
end Go.Proofs.Ytbbmjnhbmcbehaa
