/- A term's text, read: names. -/
import Derived.Test.YtlkcadibjmfmcaaDoorQb
namespace Go.Proofs.YtlkcadibjmfmcaaDoor
open Go.RowKit

/-- The name with which a term begins. -/
def rname (s : ByteArray) (q m : Nat) : PR ByteArray :=
  if great (bt s q) = false then .bad q 11
  else if 32 < lspan alnum (s.data.toList.drop q) then .bad q 20
  else if 200 < m then .bad q 2
  else .ok (bstr ((s.data.toList.drop q).take (lspan alnum (s.data.toList.drop q)))) (q + lspan alnum (s.data.toList.drop q))
theorem RdAt.drewN {W : World} {R : Nat} {s : ByteArray} {k : Nat} (h : RdAt W R s k) (n : Nat) : RdAt (W.drewN n) R s k := ⟨h.text, h.at', h.fz, h.lt⟩
theorem name_one (c : UInt8) : nameB great [c] = great c.toNat := by
  unfold nameB whole
  simp only [List.getD_cons_zero, lspan, List.length_cons, List.length_nil]
  cases h : great c.toNat with
  | false => simp
  | true =>
    have ha : alnum c.toNat = true := by unfold alnum; rw [h]; rfl
    simp [ha]
set_option maxRecDepth 100000 in
set_option maxHeartbeats 4000000 in
theorem clone_str (s : ByteArray) (w : World) (hlim : s.size ≤ 281474976710656) : Calls Tryd.prog 87 #[.string s] w fun e w' => e = .returned (.string s) ∧ Below w.heap.size w w' := by
  have H : Hid (∀ W, _) := fun W => sclone_any s W hlim
  go_enter Tryd.func87, Tryd.ntmps87
  go_wp2_with (go_at_call 98; refine (H.out _).mono ?_; rintro e w2 ⟨rfl, hb2⟩)
  go_ret
  exact ⟨rfl, hb2⟩
set_option maxRecDepth 100000 in
set_option maxHeartbeats 4000000 in
theorem name_any (R : Nat) (s : ByteArray) (q m : Nat) (w : World) (h : RdAt w R s q) (hq : q < s.size) (hm : s.size ≤ 65536) :
    Calls Tryd.prog 70 #[.pointer (some ⟨R, 0, none⟩), .int .i64 (m : Int)] w fun e w' => RC R s w (fun c => .string c) (rname s q m) e w' := by
  have h0 := h.text
  have h1 := h.at'
  have hpI : (q : Int) ≤ (s.size : Int) := by omega
  have hrl : (s.extract q s.size).data.toList = s.data.toList.drop q := extract_post s q
  have hrs : (s.extract q s.size).size = s.size - q := by simp
  have hone : ((s.extract q s.size).extract 0 1) = ⟨#[s[q]'hq]⟩ := by
    rw [extract_pre, hrl, drop_at s q hq]; rfl
  have HI : Hid (∀ W, Calls Tryd.prog 57 #[.string ((s.extract q s.size).extract 0 1)] W fun e w' => e = .returned (.bool (great (bt s q))) ∧ Below W.heap.size W w') := fun W => by
    have := isName_any ((s.extract q s.size).extract 0 1) W
    rw [hone] at this ⊢
    rw [show (⟨#[s[q]'hq]⟩ : ByteArray).data.toList = [s[q]'hq] from rfl, name_one, bt_eq s q hq] at this
    exact this
  have hle := lspan_le alnum (s.data.toList.drop q)
  rw [List.length_drop, list_len] at hle
  have HSP : Hid (∀ W, Calls Tryd.prog 86 #[.string (s.extract q s.size)] W fun e w' => e = .returned (.int .i64 (lspan alnum (s.data.toList.drop q))) ∧ w' = W) := fun W => by
    have := spanLetters_any (s.extract q s.size) W (by rw [hrs]; omega)
    rw [hrl] at this; exact this
  have HCL : Hid (∀ W, Calls Tryd.prog 87 #[.string ((s.extract q s.size).extract 0 (lspan alnum (s.data.toList.drop q)))] W fun e w' => e = .returned (.string (bstr ((s.data.toList.drop q).take (lspan alnum (s.data.toList.drop q))))) ∧ Below W.heap.size W w') := fun W => by
    have hx : (s.extract q s.size).extract 0 (lspan alnum (s.data.toList.drop q)) = bstr ((s.data.toList.drop q).take (lspan alnum (s.data.toList.drop q))) := by rw [extract_pre, hrl]; rfl
    rw [hx]
    refine clone_str _ W ?_
    show (List.toArray _).size ≤ _
    rw [List.size_toArray, List.length_take]; omega
  unfold rname
  obtain ⟨n, hn⟩ : ∃ n, lspan alnum (s.data.toList.drop q) = n := ⟨_, rfl⟩
  rw [hn] at HSP HCL hle ⊢
  generalize bstr ((s.data.toList.drop q).take n) = cn at HCL ⊢
  obtain ⟨rs, hrr⟩ : ∃ rs, s.extract q s.size = rs := ⟨_, rfl⟩
  rw [hrr] at HI HSP HCL hrs
  have HRR : Hid _ := hrr
  have hr1 : (1 : Int) ≤ (rs.size : Int) := by omega
  have hrn : (n : Int) ≤ (rs.size : Int) := by omega
  have hn6 : n ≤ 65536 := by omega
  have hq6 : (q : Int) ≤ 65536 := by omega
  have hn6' : (n : Int) ≤ 65536 := by omega
  have HR : Hid _ := h
  have HF : Hid (∀ c W, _) := fun c W => fail_any R q c W
  have HBD : Hid (∀ W, RdAt W R s q → _) := fun W hW => bound_any R s q m W hW
  have HRS : Hid _ := hrs
  clear h hrl hone hn hrs hrr hq hle hm
  generalize bt s q = c0 at *
  cases hg : great c0 with
  | false =>
    rw [hg] at HI
    rw [if_pos rfl]
    clear hg HSP HCL HBD
    go_enter Tryd.func70, Tryd.ntmps70
    go_wp2
    go_quiet (fail)
    rw [HRR.out]
    go_wp2_with (go_at_call 57; refine (HI.out _).mono ?_)
    first | rintro e w2 rfl hb2 | rintro e w2 ⟨rfl, hb2⟩
    have hr2 := (HR.out.drewN nq).below hb2 (HR.out.drewN nq).lt
    have q1 := hr2.at'
    have HG : Hid (w.grownBy w2 (some R)) := ⟨hb2.os, hb2.tape, hb2.output, hb2.size, fun b hb _ => hb2.block b hb⟩
    clear hr2 hb2
    go_wp2_with (go_at_call 53; refine (HF.out 11 _).mono ?_)
    first | rintro e w4 rfl rfl | rintro e w4 ⟨rfl, rfl⟩
    simp only [FE]
    go_wp2
    refine ⟨rfl, ?_⟩
    exact ⟨rfl, HG.out⟩
  | true =>
    rw [hg] at HI
    rw [if_neg (by simp)]
    clear hg
    by_cases h32 : 32 < n
    · rw [if_pos h32]
      have h32' : (32 : Int) < (n : Int) := by omega
      clear HCL HBD h32
      go_enter Tryd.func70, Tryd.ntmps70
      go_wp2
      go_quiet (fail)
      rw [HRR.out]
      go_wp2_with (go_at_call 57; refine (HI.out _).mono ?_)
      first | rintro e w2 rfl hb2 | rintro e w2 ⟨rfl, hb2⟩
      have hr2 := (HR.out.drewN nq).below hb2 (HR.out.drewN nq).lt
      have q1 := hr2.at'
      have HG : Hid (w.grownBy w2 (some R)) := ⟨hb2.os, hb2.tape, hb2.output, hb2.size, fun b hb _ => hb2.block b hb⟩
      clear hr2 hb2
      go_wp2_with (go_at_call 86; refine (HSP.out _).mono ?_; rintro e w3 ⟨rfl, rfl⟩)
      refine (HF.out 20 _).mono ?_
      first | rintro e w4 rfl rfl | rintro e w4 ⟨rfl, rfl⟩
      simp only [FE]
      go_wp2
      refine ⟨rfl, ?_⟩
      exact ⟨rfl, HG.out⟩
    · rw [if_neg h32]
      have h32' : ¬ (32 : Int) < (n : Int) := by omega
      clear h32
      by_cases h2 : 200 < m
      · rw [if_pos h2]
        simp only [if_pos h2] at HBD
        clear HCL h2
        go_enter Tryd.func70, Tryd.ntmps70
        go_wp2
        go_quiet (fail)
        rw [HRR.out]
        go_wp2_with (go_at_call 57; refine (HI.out _).mono ?_)
        first | rintro e w2 rfl hb2 | rintro e w2 ⟨rfl, hb2⟩
        have hr2 := (HR.out.drewN nq).below hb2 (HR.out.drewN nq).lt
        have HR2 : Hid _ := hr2
        have HG : Hid (w.grownBy w2 (some R)) := ⟨hb2.os, hb2.tape, hb2.output, hb2.size, fun b hb _ => hb2.block b hb⟩
        clear hr2 hb2
        go_wp2_with (go_at_call 86; refine (HSP.out _).mono ?_; rintro e w3 ⟨rfl, rfl⟩)
        refine (HBD.out _ HR2.out).mono ?_
        first | rintro e w4 rfl rfl | rintro e w4 ⟨rfl, rfl⟩
        simp only [FE]
        go_wp2
        refine ⟨rfl, ?_⟩
        exact ⟨rfl, HG.out⟩
      · rw [if_neg h2]
        simp only [if_neg h2] at HBD
        clear h2
        go_enter Tryd.func70, Tryd.ntmps70
        go_wp2
        go_quiet (fail)
        rw [HRR.out]
        go_wp2_with (go_at_call 57; refine (HI.out _).mono ?_)
        first | rintro e w2 rfl hb2 | rintro e w2 ⟨rfl, hb2⟩
        have hr2 := (HR.out.drewN nq).below hb2 (HR.out.drewN nq).lt
        have HR2 : Hid _ := hr2
        have q1 := hr2.at'
        have q2 := hr2.fz
        have HG : Hid (w.grownBy w2 (some R)) := ⟨hb2.os, hb2.tape, hb2.output, hb2.size, fun b hb _ => hb2.block b hb⟩
        have HFN : Hid (∀ W, Below (w2.setCell ⟨R, 1, none⟩ (.int .i64 ((q : Int) + (n : Int)))).heap.size (w2.setCell ⟨R, 1, none⟩ (.int .i64 ((q : Int) + (n : Int)))) W → RdAt W R s (q + n) ∧ w.grownBy W (some R)) := fun W hb => by
          have h3 := hr2.put (q + n)
          push_cast at h3
          exact ⟨h3.below hb h3.lt, grown_tr (grown_tr HG.out (grown_set _ _ _ _)) (grown_of_below hb _)⟩
        clear hr2 hb2
        go_wp2_with (go_at_call 86; refine (HSP.out _).mono ?_; rintro e w3 ⟨rfl, rfl⟩)
        refine (HBD.out _ HR2.out).mono ?_
        rintro e w4 ⟨rfl, rfl⟩
        go_wp2_with (go_at_call 87; refine (HCL.out _).mono ?_)
        first | rintro e w5 rfl hb5 | rintro e w5 ⟨rfl, hb5⟩
        have HFF : Hid _ := HFN.out w5 hb5
        clear hb5
        go_wp2
        go_ret
        exact ⟨rfl, HFF.out⟩
end Go.Proofs.YtlkcadibjmfmcaaDoor
