/- A document's flat text. -/
import Derived.Test.YtbmejfcbladofaaE1
namespace Go.Proofs.Ytbmejfcbladofaa
open Go.RowKit

def flD (ls : List Dc) : List UInt8 := ls.flatMap fun x => x.text.data.toList
theorem flD_take {ls : List Dc} {k : Nat} {x : Dc} (h : ls[k]? = some x) : flD (ls.take (k + 1)) = flD (ls.take k) ++ x.text.data.toList := by
  have hk := (List.getElem?_eq_some_iff.1 h)
  rw [List.take_succ_eq_append_getElem hk.1, hk.2]
  simp [flD]
theorem flD_len {ls : List Dc} {m : Nat} (h : ∀ x ∈ ls, x.text.size ≤ m) (k : Nat) : (flD (ls.take k)).length ≤ k * m := by
  induction k generalizing ls with
  | zero => simp [flD]
  | succ k ih =>
    cases ls with
    | nil => simp [flD]
    | cons x l =>
      have e : flD ((x :: l).take (k + 1)) = x.text.data.toList ++ flD (l.take k) := by simp [flD]
      rw [e, List.length_append]
      have h1 := ih (ls := l) (fun y hy => h y (by simp [hy]))
      have h2 := h x (by simp)
      have h4 : x.text.data.toList.length = x.text.size := by simp
      rw [Nat.succ_mul]
      omega
theorem BL.keep {B b : Nat} {l : List UInt8} {W W' : World} (h : BL B b l W) (hb : Below W.heap.size W W') : BL B b l W' := by
  unfold BL Lib.IsBuilder Lib.BuilderAt at *
  rcases h with ⟨h1, v, hk, hr, hn⟩ | ⟨h1, v, hk, hr, hn⟩
  · exact .inl ⟨h1, v, (hb.block b (Array.getElem?_eq_some_iff.1 hk).1).trans hk, row_below hr hb, hn⟩
  · exact .inr ⟨h1, v, (hb.block b (Array.getElem?_eq_some_iff.1 hk).1).trans hk, row_below hr hb, hn⟩
theorem BL.new (W : World) : BL W.heap.size W.heap.size [] (W.alloc (.cells #[.pointer none, .slice none 0 0] 51)) :=
  .inl ⟨Nat.le_refl _, .slice none 0 0, heap_alloc_new _ _, World.ownsRow_nil _ _ _ _, by simp [Value.ownBlock]⟩
def flatC (d : Dc) : Int := if rightD d then (if hasHard (leavesD d) then 4 else 0) else 140
def flatT (d : Dc) : ByteArray := if rightD d && !hasHard (leavesD d) then ⟨(flD (leavesD d)).toArray⟩ else ⟨#[]⟩
set_option maxRecDepth 100000 in
set_option maxHeartbeats 4000000 in
theorem flatD_any (d : Dc) (sa : Option Addr) (sc f : Nat) (w : World) (hk : DAt w w.heap.size f sa d.kids) (hsc : d.kids.length ≤ sc) (hw : wt d ≤ 700) :
    Calls Try.prog 14 #[.agg #[.int .i64 d.kind, .string d.text, .int .i64 d.n, .slice sa d.kids.length sc]] w fun e w' => e = .returned (.tuple #[.string (flatT d), .int .i64 (flatC d)]) ∧ Below w.heap.size w w' := by
  obtain ⟨w1, hw1⟩ : ∃ w1, w.alloc (.cells #[.int .i64 d.kind, .string d.text, .int .i64 d.n, .slice sa d.kids.length sc] 24) = w1 := ⟨_, rfl⟩
  have hB1 : Below w.heap.size w w1 := by rw [← hw1]; exact (Below.refl _ _).alloc (Nat.le_refl _) _
  have s1 : w1.heap.size = w.heap.size + 1 := by rw [← hw1]; simp
  have x1 : Bx w1 w.heap.size d.kind d.text d.n (.slice sa d.kids.length sc) := by rw [← hw1]; exact Bx.new _ _ _ _ _ _
  have HX1 : Hid _ := x1
  obtain ⟨a0, a1, a2, a3⟩ := x1
  have hpl : (pre d 1).length ≤ 700 := Nat.le_trans (pre_wt d 1) hw
  have hD : ∀ W, Below w.heap.size w W → DAt W W.heap.size f sa d.kids := fun W hW => (hk.keep hW).mono hW.size
  have HR : Hid _ := fun (_ : Unit) => right_any d sa sc f w1 (hD w1 hB1) hsc (by omega)
  have HLV : Hid _ := fun (W : World) (hW : Below w.heap.size w W) => leaves_any d sa sc f W (hD W hW) hsc (by omega)
  have HB1 : Hid _ := hB1
  have HS1 : Hid _ := s1
  have HLL : Hid ((leavesD d).length ≤ 700) := Nat.le_trans (leaves_len d) hpl
  have HTX : Hid (∀ x ∈ leavesD d, x.text.size ≤ 11200) := fun x hx => Nat.le_trans (leaves_text d x hx) (by omega)
  have hT : ∀ r, rightD d = r → flatT d = (if r && !hasHard (leavesD d) then ⟨(flD (leavesD d)).toArray⟩ else ⟨#[]⟩) ∧ flatC d = if r then (if hasHard (leavesD d) then 4 else 0) else 140 := fun r hr => by unfold flatT flatC; rw [hr]; exact ⟨rfl, rfl⟩
  clear hk hD hB1 s1 hpl hw
  cases hr : rightD d with
  | false =>
    have HV : Hid _ := hT false hr
    rw [hr] at HR
    clear hr hT
    go_enter Try.func14, Try.ntmps14
    go_wp2_with (go_at_call 15; refine (HR.out ()).mono ?_)
    rintro e w2 ⟨rfl, hb2⟩
    have HB2 : Hid (Below w.heap.size w w2) := HB1.out.trans (hb2.mono HB1.out.size)
    clear hb2
    go_wp2
    refine bodyPost_ret (results_tmp2 rfl _ _ _) rfl ?_
    rw [HV.out.1, HV.out.2]
    exact ⟨rfl, HB2.out⟩
  | true =>
    have HV : Hid _ := hT true hr
    rw [hr] at HR
    clear hr hT
    go_enter Try.func14, Try.ntmps14
    go_wp2_with (first
      | (go_at_call 15; refine (HR.out ()).mono ?_; rintro e w2 ⟨rfl, hb2⟩; obtain ⟨b0, b1, b2, b3⟩ := HX1.out.keep hb2 (by rw [HS1.out]; omega); have HB2 : Hid (Below w.heap.size w w2) := HB1.out.trans (hb2.mono HB1.out.size); clear hb2 a0 a1 a2 a3)
      | (go_at_call 16; refine (HLV.out w2 HB2.out).mono ?_))
    rintro e w3 ⟨⟨v, rfl, hrow⟩, hb3⟩
    generalize leavesD d = ls at *
    have HB3 : Hid (Below w.heap.size w w3) := HB2.out.trans (hb3.mono HB2.out.size)
    have HC : Hid _ := fun (_ : Unit) => contains_any ls v w3 ⟨_, hrow⟩ (by have := HLL.out; omega)
    have HRK : Hid (∀ W, Below w3.heap.size w3 W → W.ownsRow w2.heap.size 24 4 v ls.length (lfV ls)) := fun W hW => row_below hrow hW
    obtain ⟨va, vc, rfl⟩ := row_slice hrow
    clear hb3 hrow b0 b1 b2 b3
    cases hh : hasHard ls with
    | true =>
      rw [hh] at HC HV
      clear hh
      go_wp2_with (go_at_call 25; refine (HC.out ()).mono ?_)
      rintro e w4 ⟨rfl, hb4⟩
      have HB4 : Hid (Below w.heap.size w w4) := HB3.out.trans (hb4.mono HB3.out.size)
      clear hb4
      go_wp2
      refine bodyPost_ret (results_tmp2 rfl _ _ _) rfl ?_
      rw [HV.out.1, HV.out.2]
      exact ⟨rfl, HB4.out⟩
    | false =>
      rw [hh] at HC HV
      clear hh
      go_wp2_with (go_at_call 25; refine (HC.out ()).mono ?_)
      rintro e w4 ⟨rfl, hb4⟩
      have HB34 : Hid (Below w3.heap.size w3 w4) := hb4
      have HB4 : Hid (Below w.heap.size w w4) := HB3.out.trans (hb4.mono HB3.out.size)
      have HN : Hid _ := BL.new w4
      have HB5 : Hid (Below w4.heap.size w4 (w4.alloc (.cells #[.pointer none, .slice none 0 0] 51))) := (Below.refl _ _).alloc (Nat.le_refl _) _
      have hls : ls.length ≤ 700 := HLL.out
      clear hb4
      go_wp2
      go_loopw [7, 17] (fun _ iv W => ∃ (k : Nat) (l : List UInt8), k ≤ ls.length ∧ iv = .int .i64 k ∧ l = flD (ls.take k) ∧ l.length ≤ k * 11200 ∧ BL w4.heap.size w4.heap.size l W ∧ Below w4.heap.size w4 W) (fun _ iv _ => ls.length - (intOf iv).toNat)
      case atStart => exact ⟨0, [], Nat.zero_le _, rfl, rfl, Nat.zero_le _, HN.out, HB5.out⟩
      case round =>
        obtain ⟨k, l, hk, rfl, hl, hlk, hbl, hB⟩ := hrel
        have HL : Hid _ := hl
        clear hl HN
        by_cases hlt : k < ls.length
        · obtain ⟨x, hx⟩ : ∃ x, ls[k]? = some x := ⟨ls[k], by simp [hlt]⟩
          have hrow : wr.ownsRow w2.heap.size 24 4 (.slice va ls.length vc) ls.length (lfV ls) := HRK.out wr (HB34.out.trans (hB.mono HB34.out.size))
          obtain ⟨g, cap, hsl, _, hglt⟩ := hrow.form (by omega)
          cases hsl
          obtain ⟨q0, q1, q2, q3⟩ := lfV_get4 hx
          have c0 := (own_cell hrow q0).1
          have c1 := (own_cell hrow q1).1
          have c2 := (own_cell hrow q2).1
          have c3 := (own_cell hrow q3).1
          have hltI : (k : Int) < ls.length := by omega
          have htx : x.text.size ≤ 11200 := HTX.out x (List.mem_of_getElem? hx)
          have hBA : Below wr.heap.size wr (wr.alloc (.cells #[.int .i64 x.kind, .string x.text, .int .i64 x.n, .slice none 0 0] 24)) := (Below.refl _ _).alloc (Nat.le_refl _) _
          have e1 : (⟨x.text.data.toList.toArray⟩ : ByteArray) = x.text := by simp
          have HW : Hid _ := fun (_ : Unit) => wstr_any w4.heap.size w4.heap.size l x.text.data.toList _ (hbl.keep hBA) (by simp; omega) (Nat.le_trans hB.size hBA.size)
          rw [e1] at HW
          have HE : Hid (flD (ls.take (k + 1)) = l ++ x.text.data.toList) := by show _ = _; rw [flD_take hx, HL.out]
          have HBA : Hid _ := hBA
          have HBW : Hid _ := hB
          clear hrow hx q0 q1 q2 q3 hbl hBA e1 HL hB
          go_wp2_with (go_at_call 27; refine (HW.out ()).mono ?_)
          rintro e w6 ⟨rfl, hbl6, hb6, _⟩
          have HB6 : Hid (Below w4.heap.size w4 w6) := (HBW.out.trans (HBA.out.mono HBW.out.size)).trans hb6
          have HL6 : Hid _ := hbl6
          clear hbl6 hb6 c0 c1 c2 c3
          go_wp2
          go_roundw
          case rel => exact ⟨k + 1, l ++ x.text.data.toList, by omega, by go_num, HE.out.symm, by rw [List.length_append, Nat.succ_mul]; simp; omega, HL6.out, HB6.out⟩
          case measure => simp [intOf]; omega
        · obtain rfl : k = ls.length := by omega
          have hl := HL.out
          rw [List.take_length] at hl
          have HST : Hid _ := fun (_ : Unit) => string_any w4.heap.size w4.heap.size l wr hbl hB.size
          have HBW : Hid _ := hB
          rw [hl] at HST
          clear hbl hB hl HL
          go_wp2_with (go_at_call 28; refine (HST.out ()).mono ?_)
          rintro e w6 ⟨rfl, hb6⟩
          have HB6 : Hid (Below w.heap.size w w6) := HB4.out.trans ((HBW.out.trans hb6).mono HB4.out.size)
          clear hb6
          go_wp2
          refine bodyPost_ret (results_tmp2 rfl _ _ _) rfl ?_
          rw [HV.out.1, HV.out.2]
          exact ⟨rfl, HB6.out⟩
end Go.Proofs.Ytbmejfcbladofaa
