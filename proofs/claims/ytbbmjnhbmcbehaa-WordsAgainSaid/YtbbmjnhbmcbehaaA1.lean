/- The law WordsAgain, walked. -/
import Derived.Test.YtbbmjnhbmcbehaaJ1
import Derived.Test.YtbbmjnhbmcbehaaT1
namespace Go.Proofs.Ytbbmjnhbmcbehaa
open Go.RowKit

set_option maxRecDepth 100000 in
set_option maxHeartbeats 1000000 in
theorem again_walk (x : ByteArray) (w : World) : Calls Try.prog 8 #[.string x] w fun e w' => e = .returned (.bool true) ∧ Below w.heap.size w w' := by
  have HL : Hid _ := fun w => alive_any w
  by_cases h1 : 20000 < x.size
  · have h1' : (20000 : Int) < x.size := by omega
    go_enter Try.func8, Try.ntmps8
    go_wp2_with (go_at_call 12; refine (HL.out _).mono ?_; rintro e w1 ⟨rfl, hb1⟩)
    go_ret
    exact ⟨rfl, hb1⟩
  have h1' : (x.size : Int) ≤ 20000 := by omega
  replace h1 : x.size ≤ 20000 := by omega
  have H1 : Hid _ := fun w => scan_any x w
  have HT : Hid _ := words_again x.data.toList (by rw [list_len]; omega)
  have HC : Hid _ := scan_code x.data.toList
  have hcx := scan_count x.data.toList
  rw [list_len] at hcx
  go_enter Try.func8, Try.ntmps8
  go_wp2_with (go_at_call 13; refine (H1.out _).mono ?_)
  rintro e w1 ⟨lv, L, rfl, hL, hW, hb1⟩
  generalize scan x.data.toList = Sx at *
  obtain ⟨ws, fa, fc⟩ := Sx
  simp only [fv] at hL hcx ⊢
  have F4 := Blk.new w1 26 #[.int .i64 (fa : Int), .int .i64 (fc : Int)]
  have hB1 := hb1.alloc hb1.size (.cells #[.int .i64 (fa : Int), .int .i64 (fc : Int)] 26)
  have hW1 := hW.alloc (.cells #[.int .i64 (fa : Int), .int .i64 (fc : Int)] 26)
  clear hb1 hW H1
  by_cases hfc : fc = 0
  · subst hfc
    obtain ⟨us, we, e1, e2, e3, e4, e5, e6, e7, e8, e9⟩ := HT.out rfl
    simp only at e1 e2 e9
    subst e2
    replace hW1 : Words (w1.alloc (.cells #[.int .i64 0, .int .i64 0] 26)) w.heap.size lv L := hW1
    replace hB1 : Below w.heap.size w (w1.alloc (.cells #[.int .i64 0, .int .i64 0] 26)) := hB1
    obtain ⟨Lu, qe, rfl⟩ : ∃ Lu qe, L = Lu ++ [qe] := by
      rcases List.eq_nil_or_concat L with rfl | ⟨Lu, qe, h⟩
      · rw [e1] at hL; simp at hL
      · exact ⟨Lu, qe, by rw [h, List.concat_eq_append]⟩
    have hLu : Lu.map (·.1) = us ∧ qe.1 = we := by
      rw [e1, List.map_append, List.map_cons, List.map_nil] at hL
      have := List.append_inj' hL rfl
      exact ⟨this.1, by simpa using this.2⟩
    obtain ⟨hLu, hqe⟩ := hLu
    have hrL := hW1.row
    rw [List.length_append, List.length_singleton] at hrL
    obtain ⟨g, lc, rfl⟩ := ownsRow_succ hrL
    clear hrL
    have ht : Lu.map (fun q => q.1.text) = us.map (·.text) := by rw [← hLu, List.map_map]; rfl
    have hj := join_any Lu qe _ w.heap.size _ hW1 (fun q hq => e4 q.1 (by rw [← hLu]; exact List.mem_map_of_mem hq)) (by rw [hqe]; exact e3) (by rw [← hLu, List.map_map] at e6; exact e6) (by rw [← hLu, List.length_map] at e7; exact e7)
    rw [ht] at hj
    have HJ : Hid _ := fun (_ : Unit) => hj
    clear hj
    obtain ⟨z, hz⟩ : ∃ z : ByteArray, (⟨(joinT (us.map (·.text))).toArray⟩ : ByteArray) = z := ⟨_, rfl⟩
    rw [hz] at HJ
    have H2 : Hid _ := fun w => scan_any z w
    have hzl : z.data.toList = joinT (us.map (·.text)) := by rw [← hz]
    rw [hzl] at H2
    generalize scan (joinT (us.map (·.text))) = Sz at *
    obtain ⟨zs, ka, kc⟩ := Sz
    simp only [Prod.mk.injEq] at e8 e9
    obtain ⟨rfl, rfl⟩ := e8
    have HCW : Hid _ := e9
    have HLL : Hid _ := hL
    have hnl : (Lu ++ [qe]).length ≤ 65537 := by rw [← List.length_map (f := fun x : Wd × Value => x.1), hL]; omega
    clear hz hzl e1 e3 e4 e5 e6 e7 e9 HT HC hL hLu hqe ht hcx
    go_wp2_with (go_at_call 26; refine (HJ.out ()).mono ?_)
    rintro e w2 ⟨rfl, hb2⟩
    have hB2 := below_of hB1 hb2
    have hW2 := hW1.after hb2
    clear hW1 hB1 hb2 HJ F4
    go_wp2_with (go_at_call 13; refine (H2.out _).mono ?_)
    rintro e w3 ⟨zv, Z, rfl, hZ, hZW, hb3⟩
    have HZ : Hid (Z.map (·.1) = zs) := hZ
    clear hZ
    have hB3 := below_of hB2 hb3
    replace hZW := (hZW.mono hB2.size).alloc (.cells #[.int .i64 0, .int .i64 0] 26)
    have hW3 := (hW2.after hb3).alloc (.cells #[.int .i64 0, .int .i64 0] 26)
    have F6 := Blk.new w3 26 #[.int .i64 0, .int .i64 0]
    have hB4 := hB3.alloc hB3.size (.cells #[.int .i64 0, .int .i64 0] 26)
    have hcws : (Lu ++ [qe]).map (fun q => cw q.1) = Z.map (fun q => cw q.1) := by
      have h1 := HCW.out
      rw [← HZ.out, ← HLL.out, List.map_map, List.map_map] at h1
      exact h1.symm
    obtain ⟨za, zc, rfl⟩ := row_slice hZW.row
    have HSW : Hid _ := fun w7 (hb : Below (w3.alloc (.cells #[.int .i64 0, .int .i64 0] 26)).heap.size (w3.alloc (.cells #[.int .i64 0, .int .i64 0] 26)) w7) => same_any false _ _ (Lu ++ [qe]) Z _ _ w7 (hW3.after hb) (hZW.after hb) hcws (fun h => by cases h) hnl
    simp only [fv]
    clear hW2 hB2 hb3 hB3 hcws
    go_wp2_with (go_at_call 12; refine (HL.out _).mono ?_; rintro e w7 ⟨rfl, hb7⟩; obtain ⟨k0, k1⟩ := (F6.after hb7).pair; have l10 := (F6.after hb7).lt)
    refine (HSW.out _ hb7).mono ?_
    rintro e w8 ⟨rfl, hb8⟩
    go_wp2
    go_ret
    exact ⟨rfl, below_of (below_of hB4 hb7) hb8⟩
  · have hfc' : ((fc : Int) != 0) = true := by simp; omega
    have h0 := HC.out hfc
    simp only at h0
    subst h0
    obtain rfl : L = [] := by simpa using hL
    obtain ⟨la, lc, rfl⟩ := row_slice hW1.row
    clear hW1 hL HT HC hcx
    go_wp2_with (go_at_call 12; refine (HL.out _).mono ?_; rintro e w7 ⟨rfl, hb7⟩)
    go_ret
    exact ⟨rfl, below_of hB1 hb7⟩
end Go.Proofs.Ytbbmjnhbmcbehaa
