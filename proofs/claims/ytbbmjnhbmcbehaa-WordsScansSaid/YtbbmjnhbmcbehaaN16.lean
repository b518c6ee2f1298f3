/- The fixed calls that each law of the words makes. -/
import Derived.Test.YtbbmjnhbmcbehaaN15
import Derived.Test.YtbbmjnhbmcbehaaN4
import Derived.Test.YtbbmjnhbmcbehaaN6
import Derived.Laws.BytesArg
import Derived.Laws.BytesString
namespace Go.Proofs.Ytbbmjnhbmcbehaa
open Go.RowKit

theorem wcells_get : ∀ (L : List (Wd × Value)) (i j : Nat) (q : Wd × Value), L[i]? = some q → j < 11 → (wcells L)[i * 11 + j]? = (wcell q.1 q.2)[j]?
  | [], i, j, q, h, hj => by simp at h
  | a :: L, 0, j, q, h, hj => by
    simp at h; subst h
    have e : wcells (a :: L) = wcell a.1 a.2 ++ wcells L := by simp [wcells]
    rw [e, Nat.zero_mul, Nat.zero_add, List.getElem?_append_left (by simpa [wcell] using hj)]
  | a :: L, i + 1, j, q, h, hj => by
    have h' : L[i]? = some q := by simpa using h
    have e : wcells (a :: L) = wcell a.1 a.2 ++ wcells L := by simp [wcells]
    have hl : (wcell a.1 a.2).length = 11 := rfl
    rw [e, List.getElem?_append_right (by rw [hl]; omega), hl, show (i + 1) * 11 + j - 11 = i * 11 + j by omega]
    exact wcells_get L i j q h' hj
def txt : ByteArray := ⟨#[99, 102, 32, 69, 46, 65, 32, 61, 32, 69, 32, 34, 43, 34, 32, 69, 59, 32, 35, 32, 120]⟩
theorem txt_scan : (scan txt.data.toList).2 = (0, 0) ∧ (scan txt.data.toList).1.length = 10 ∧ ((scan txt.data.toList).1[9]?).map (·.kind) = some 7 := by decide +kernel
theorem unq_J : unq [34, 92, 120, 52, 65, 34] = ([74], 0, 0) := by decide +kernel
theorem plc_bc : plc ⟨#[97, 10, 98, 99]⟩ 3 = (2, 2) := by decide +kernel
theorem bytesV_get (l : List Nat) (i : Nat) (h : i < l.length) : (bytesV l)[i]? = some (.int .u8 ((l.map (fun n : Nat => (n : Int))).getD i 0)) := by
  unfold bytesV
  rw [List.getElem?_map, List.getElem?_eq_getElem h, List.getD_eq_getElem?_getD, List.getElem?_map, List.getElem?_eq_getElem h]; rfl
/-- A row of bytes, turned into a text. -/
theorem row_conv {W : World} {base : Nat} {v : Value} {l : List Nat} (h : W.ownsRow base 5 1 v l.length (bytesV l)) : (convert 30 9 v).run Try.prog W = .ok (.string (strOfNums (l.map (fun n : Nat => (n : Int))))) W := by
  rcases h.2 with ⟨rfl, h0⟩ | ⟨g, cap, cur, rfl, hrest⟩
  · obtain rfl := List.eq_nil_of_length_eq_zero h0
    rw [run_convert_bytes_string W 30 9 5 none 0 0 Try.underlying30 Try.underlying5 Try.underlying9]
    simp [Conv.bytesToString]; rfl
  · refine run_convert_bytes_arg W 30 5 Try.underlying30 Try.underlying5 g 0 l.length cap (l.map (fun n : Nat => (n : Int))) (by simp) (fun i hi => ?_) 9 Try.underlying9
    rw [Nat.zero_add, h.cellAt i (by omega)]
    exact bytesV_get l i hi
theorem fv_zero : fv 0 0 = .agg #[.int .i64 0, .int .i64 0] := rfl
theorem eql26 (w : World) : (binOp .eql 26 (.agg #[.int .i64 0, .int .i64 0]) (.agg #[.int .i64 0, .int .i64 0])).run Try.prog w = .ok (.bool true) w := by kernel_rfl
set_option maxRecDepth 100000 in
set_option maxHeartbeats 4000000 in
theorem alive_any (w : World) : Calls Try.prog 12 #[] w fun e w' => e = .returned (.bool true) ∧ Below w.heap.size w w' := by
  have H1 : Hid (∀ w, Calls Try.prog 13 #[.string ⟨#[99, 102, 32, 69, 46, 65, 32, 61, 32, 69, 32, 34, 43, 34, 32, 69, 59, 32, 35, 32, 120]⟩] w (Scans w (scan txt.data.toList))) := fun w => scan_any txt w
  obtain ⟨hs2, hsl, hs9⟩ := txt_scan
  have H2 : Hid (∀ w, Calls Try.prog 16 #[.string ⟨#[34, 92, 120, 52, 65, 34]⟩] w fun e w' => ∃ v, e = .returned (.tuple #[v, .agg #[.int .i64 0, .int .i64 0]]) ∧ w'.ownsRow w.heap.size 5 1 v 1 (bytesV [74]) ∧ Below w.heap.size w w') := fun w => by
    have := unquote_any ⟨#[34, 92, 120, 52, 65, 34]⟩ w
    rw [show (⟨#[34, 92, 120, 52, 65, 34]⟩ : ByteArray).data.toList = [34, 92, 120, 52, 65, 34] from rfl, unq_J] at this
    exact this
  have H3 : Hid (∀ w, Calls Try.prog 24 #[.string ⟨#[97, 10, 98, 99]⟩, .int .i64 3] w fun e w' => e = .returned (.tuple #[.int .i64 2, .int .i64 2]) ∧ w' = w) := fun w => by
    have := place_any ⟨#[97, 10, 98, 99]⟩ 3 w (by decide)
    rw [plc_bc] at this; exact this
  generalize scan txt.data.toList = S at *
  obtain ⟨ws, fa, fc⟩ := S
  simp only [Prod.mk.injEq] at hs2 hsl hs9
  obtain ⟨rfl, rfl⟩ := hs2
  go_enter Try.func12, Try.ntmps12
  go_wp2_with (go_at_call 13; refine (H1.out _).mono ?_)
  rintro e w1 ⟨lv, L, rfl, hL, hW, hb1⟩
  simp only at hL
  have hLl : L.length = 10 := by rw [← hsl, ← hL, List.length_map]
  obtain ⟨q, hq⟩ : ∃ q, L[9]? = some q := by
    rw [List.getElem?_eq_getElem (by omega)]; exact ⟨_, rfl⟩
  have hk : q.1.kind = 7 := by
    rw [← hL, List.getElem?_map, hq] at hs9; simpa using hs9
  have hrow := hW.row
  have HG : Hid _ := wcells_get L 9 0 q hq (by decide)
  rw [hLl] at hrow
  obtain ⟨g, cap, rfl⟩ := ownsRow_succ hrow
  have hc := hrow.cellAt (9 * 11 + 0) (by decide)
  rw [HG.out] at hc
  simp only [wcell, hk, List.getElem?_cons_zero] at hc
  have hg := (hrow.lt g rfl).2
  simp only [fv]
  clear H1 HG hrow hW hk hq hLl hL hs9 hsl
  go_wp2_with (go_at_call 16; refine (H2.out _).mono ?_)
  rintro e w2 ⟨v, rfl, hrow2, hb2⟩
  have hb12 := below_of ((Below.refl _ w1).alloc (Nat.le_refl _) (.cells #[.int .i64 0, .int .i64 0] 26)) hb2
  have hc2 : w2.cell? ⟨g, 99, none⟩ = some (.int .i64 7) := (hb12.cell (p := ⟨g, 99, none⟩) hg).trans hc
  have hF := (Blk.new w1 26 #[.int .i64 0, .int .i64 0]).after hb2
  obtain ⟨f0, f1⟩ := hF.pair
  have lF := hF.lt
  have hg2 : g < w2.heap.size := Nat.lt_of_lt_of_le hg hb12.size
  obtain ⟨va, vc, rfl⟩ := row_slice hrow2
  have HCV : (convert 30 9 (.slice va 1 vc)).run Try.prog (w2.alloc (.cells #[.int .i64 0, .int .i64 0] 26)) = .ok (.string ⟨#[74]⟩) (w2.alloc (.cells #[.int .i64 0, .int .i64 0] 26)) := row_conv (l := [74]) (hrow2.alloc _)
  have hB := below_of hb1 hb12
  clear hb1 hb2 hb12 hc hrow2 H2
  go_wp2_with (go_at_call 24; refine (H3.out _).mono ?_; rintro e w' ⟨rfl, rfl⟩)
  go_ret
  exact ⟨rfl, hB.alloc hB.size _⟩
end Go.Proofs.Ytbbmjnhbmcbehaa
