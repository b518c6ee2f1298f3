/- Letters of a name in a text that is read; a text copied. -/
import Derived.Test.YtlkcadibjmfmcaaDoorNe
namespace Go.Proofs.YtlkcadibjmfmcaaDoor
open Go.RowKit

set_option maxRecDepth 100000 in
set_option maxHeartbeats 1000000 in
theorem isLetter_any (n : Nat) (w : World) : Calls Tryd.prog 97 #[.int .u8 n] w fun e w' => e = .returned (.bool (alnum n)) ∧ w' = w := by
  have H : Hid (alnum n = (decide (65 ≤ n) && decide (n ≤ 90) || decide (97 ≤ n) && decide (n ≤ 122) || decide (48 ≤ n) && decide (n ≤ 57))) := rfl
  go_enter Tryd.func97, Tryd.ntmps97
  go_wp2
  all_goals go_ret
  all_goals (refine ⟨ret_bool ?_, rfl⟩; rw [H.out])
  all_goals (rw [Bool.eq_iff_iff]; simp; try omega)
set_option maxRecDepth 100000 in
set_option maxHeartbeats 2000000 in
theorem spanLetters_any (x : ByteArray) (w : World) (hx : x.size ≤ 9223372036854775807) : Calls Tryd.prog 86 #[.string x] w fun e w' => e = .returned (.int .i64 (lspan alnum x.data.toList)) ∧ w' = w := by
  go_enter Tryd.func86, Tryd.ntmps86
  go_wp2
  go_loopw [3, 6] (fun _ i w' => ∃ pos : Nat, w' = w ∧ i = .int .i64 pos ∧ pos ≤ x.size ∧ pos + lspan alnum (x.data.toList.drop pos) = lspan alnum x.data.toList) (fun _ i _ => x.size - (intOf i).toNat)
  case atStart => exact ⟨0, rfl, rfl, Nat.zero_le _, by simp⟩
  case round =>
    obtain ⟨pos, rfl, rfl, hp, hsp⟩ := hrel
    by_cases hlt : pos < x.size
    · have b0 := bt_eq x pos hlt
      have HD : Hid _ := fun w => isLetter_any (bt x pos) w
      have hl := bt_lt x pos
      rw [drop_at x pos hlt] at hsp
      simp only [lspan, b0] at hsp
      cases hd : alnum (bt x pos) with
      | true =>
        rw [hd] at HD
        simp only [hd, if_true] at hsp
        have HSP : Hid _ := hsp
        clear hsp hd
        generalize bt x pos = c at *
        go_wp2_with (go_at_call 97; refine (HD.out _).mono ?_; rintro e w' ⟨rfl, rfl⟩)
        exact ⟨⟨pos + 1, trivial, by go_num, by omega, by have := HSP.out; omega⟩, by simp [intOf]; omega⟩
      | false =>
        rw [hd] at HD
        simp only [hd, Bool.false_eq_true, if_false] at hsp
        have HE : Hid (lspan alnum x.data.toList = pos) := by show _ = _; omega
        clear hsp hd
        generalize bt x pos = c at *
        go_wp2_with (go_at_call 97; refine (HD.out _).mono ?_; rintro e w' ⟨rfl, rfl⟩)
        go_ret
        exact ⟨ret_int (by rw [HE.out]), rfl⟩
    · rw [drop_end x pos (by omega)] at hsp
      have HE : Hid (lspan alnum x.data.toList = x.size) := by simp only [lspan] at hsp; show _ = _; omega
      clear hsp
      go_wp2
      go_ret
      exact ⟨ret_int (by rw [HE.out]), rfl⟩
theorem app_zero (ty : TypeId) (a : Addr) (p : Addr) (sc : Nat) (w : World) : (Builtin.append_ #[22, 22] ty #[.slice (some a) 0 0, .slice (some p) 0 sc]).run Tryd.prog w = .ok (.slice (some a) 0 0) w := by kernel_rfl
/-- A text put behind an empty row that is owned. -/
theorem wpList_append_bytes2 {ops : Array Oper} {rest : List Oper} {o : Oper} {a : Act} {Q : Exit → Act → World → Prop} {w : World} (hgd : o.guard = none) (s x : Operand)
    (ho : o.op = .call { callee := .builtin .append, args := #[s, x], argTypes := #[22, 22] }) (t : List UInt8) (p : Addr) (tc B g0 B0 : Nat)
    (hs : a.eval s = .slice (some ⟨g0, 0, none⟩) 0 0) (hown0 : w.ownsRow B0 5 1 (.slice (some ⟨g0, 0, none⟩) 0 0) 0 []) (hB0 : B0 ≤ w.heap.size) (hx : a.eval x = .slice (some p) t.length tc) (hT : BAt w B (some p) t) (hn : t.length ≤ 140737488355328)
    (h : ∀ uv w', Txx w' (fun b => B0 ≤ b ∧ b < w'.heap.size) uv t → w.grownBy w' (some g0) → wpList Tryd.prog ops Q rest (a.put o.dst uv) w') :
    wpList Tryd.prog ops Q (o :: rest) a w := by
  obtain ⟨i0, hinf, hz0, hz1, hz2⟩ := info_parts info5
  by_cases h0 : t.length = 0
  · have ht := List.eq_nil_of_length_eq_zero h0
    refine wpList_plain hgd fun K hK => ?_
    have hrun := app_zero o.type ⟨g0, 0, none⟩ p tc w
    unfold Oper.wp execOp
    simp only [ho, resolve, invoke, builtin, Sem.run_bind, Sem.run_pure, Result.andThen_ok, List.map_toArray, List.map_cons, List.map_nil, hs, hx, h0, hrun]
    exact hK _ _ (h _ _ ⟨_, 0, by rw [h0], by omega, hn, fun i c hi => by rw [ht] at hi; cases hi⟩ ⟨rfl, rfl, rfl, Nat.le_refl _, fun _ _ _ => rfl⟩)
  · obtain ⟨b, o', e, _⟩ := hT 0 (t[0]'(by omega)) (by simp)
    cases e
    refine wpList_append_lies w hgd s x 22 ho B0 5 i0 (.int .u8 0) 1 1 Tryd.underlying22 hinf hz0 hz1 hz2 rfl (by decide) _ _ _ hs hown0 ⟨b, o', none⟩ t.length tc (t.map fun c => .int .u8 (c.toNat : Int)) hx (by simp) (fun j u hu => ?_) (fun u hu => ?_) (by omega) (by unfold maxLen; omega) (by omega) hB0 _ rfl fun g cap w' hown hgrow _ _ => ?_
    · rw [List.getElem?_map] at hu
      obtain ⟨c, hc, rfl⟩ := Option.map_eq_some_iff.1 hu
      obtain ⟨b', o'', e, _, hcell⟩ := hT j c hc
      cases e
      have e2 : (⟨b, o', none⟩ : Addr).add j = ⟨b, o' + j, none⟩ := by simp [Addr.add]
      rw [e2]; exact hcell
    · obtain ⟨c, _, rfl⟩ := List.mem_map.1 hu
      rfl
    · rw [Nat.zero_add, List.nil_append] at hown
      rw [Nat.zero_add]
      have hcap : t.length ≤ cap := by
        rcases hown.2 with ⟨e, _⟩ | ⟨g', cap', cur, e, _, _, hc, _⟩
        · cases e
        · cases e; exact hc
      refine h _ w' ⟨_, cap, rfl, hcap, hn, fun i c hi => ⟨g, 0, rfl, hown.lt g rfl, ⟨row_tag hown, fun q => hown.frozenAt q⟩, ?_⟩⟩ hgrow
      have hlt := (List.getElem?_eq_some_iff.1 hi).1
      rw [Nat.zero_add, hown.cellAt i (by simpa using hlt), List.getElem?_map, hi]; rfl
theorem nil_none (n c : Nat) (w : World) : (binOp BinOp.eql 22 (.slice none n c) (.slice none 0 0)).run Tryd.prog w = .ok (.bool true) w := by kernel_rfl
theorem nil_some (p : Addr) (n c : Nat) (w : World) : (binOp BinOp.eql 22 (.slice (some p) n c) (.slice none 0 0)).run Tryd.prog w = .ok (.bool false) w := by kernel_rfl
set_option maxRecDepth 100000 in
set_option maxHeartbeats 2000000 in
/-- bytes.Clone. -/
theorem bclone_any (t : List UInt8) (ta : Option Addr) (tc : Nat) (w : World) (hT : BAt w w.heap.size ta t) (hn : t.length ≤ 140737488355328) :
    Calls Tryd.prog 38 #[.slice ta t.length tc] w fun e w' => (∃ uv, e = .returned uv ∧ Txx w' (fun b => w.heap.size ≤ b ∧ b < w'.heap.size) uv t) ∧ Below w.heap.size w w' := by
  cases ta with
  | none =>
    have h0 : t = [] := by
      cases t with
      | nil => rfl
      | cons c t => obtain ⟨b, o, e, _⟩ := hT 0 c rfl; cases e
    subst h0
    have hq := fun w => nil_none 0 tc w
    go_enter Tryd.func38, Tryd.ntmps38
    go_wp2
    go_ret
    exact ⟨⟨_, rfl, none, 0, rfl, Nat.le_refl _, by decide, fun i c hi => by cases hi⟩, Below.refl _ _⟩
  | some p =>
    have hq := fun w => nil_some p t.length tc w
    have hBW : Below w.heap.size w (w.alloc (.cells #[] 5)) := (Below.refl _ _).alloc (Nat.le_refl _) _
    have HT : Hid (BAt (w.alloc (.cells #[] 5)) w.heap.size (some p) t) := hT.keep (fun b q hb => hBW.cell (p := ⟨b, q, none⟩) hb)
    have HR : Hid ((w.alloc (.cells #[] 5)).ownsRow w.heap.size 5 1 (.slice (some ⟨w.heap.size, 0, none⟩) 0 0) 0 []) := ⟨rfl, .inr ⟨_, 0, #[], rfl, Nat.le_refl _, World.alloc_heap_new _ _, Nat.le_refl _, by unfold maxLen; omega, rfl, rfl⟩⟩
    have HB : Hid _ := hBW
    clear hBW hT
    go_enter Tryd.func38, Tryd.ntmps38
    go_wp2_with (at_builtin; refine wpList_append_bytes2 rfl _ _ rfl t p tc w.heap.size w.heap.size w.heap.size rfl HR.out (by simp) rfl HT.out hn ?_)
    intro uv w' hx hg
    have HX : Hid _ := hx
    have HG : Hid (Below w.heap.size w w') := HB.out.grown hg (by simp) (fun j hj => by cases hj; exact Nat.le_refl _)
    clear hx hg
    go_wp2
    go_ret
    exact ⟨⟨_, rfl, HX.out⟩, HG.out⟩
end Go.Proofs.YtlkcadibjmfmcaaDoor
