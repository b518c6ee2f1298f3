/- Which grammars are right. -/
import Derived.Test.YtopbibhpekjaeaaM0
namespace Go.Proofs.Ytopbibhpekjaeaa
open Go.RowKit

def isN (n k : Int) : Bool := decide (0 ≤ k) && decide (k < n)
def Ks.okB (n : Int) (s : Ks) : Bool := s.nt == -1 || (isN n s.nt && s.set.same St.zero)
def Rl.okB (n : Int) (r : Rl) : Bool := isN n r.lhs && decide (r.rhs.length ≤ 80) && r.rhs.all (Ks.okB n)
def Gm.okB (G : Gm) : Bool := decide (1 ≤ G.nts) && decide (G.nts ≤ 4096) && isN G.nts G.start && decide (G.rules.length ≤ 8192) && G.rules.all (Rl.okB G.nts)

set_option maxRecDepth 100000 in
set_option maxHeartbeats 1000000 in
theorem isNt_any (n k : Int) (B : Nat) (w : World) (hc : w.cell? ⟨B, 0, none⟩ = some (.int .i64 n)) :
    Calls Try.prog 38 #[.int .i64 k, .pointer (some ⟨B, 0, none⟩)] w fun e w' => e = .returned (.bool (isN n k)) ∧ w' = w := by
  unfold isN
  by_cases h0 : 0 ≤ k
  · go_enter Try.func38, Try.ntmps38
    go_wp2
    go_ret
    exact ⟨by simp [h0], rfl⟩
  · have h1 : decide (0 ≤ k) = false := by simp; omega
    rw [h1]
    go_enter Try.func38, Try.ntmps38
    go_wp2
    go_ret
    exact ⟨rfl, rfl⟩
set_option maxRecDepth 100000 in
set_option maxHeartbeats 1000000 in
theorem isSym_any (n : Int) (s : Ks) (B C : Nat) (w : World) (hB : B < w.heap.size) (hC : C < w.heap.size) (hc : w.cell? ⟨B, 0, none⟩ = some (.int .i64 n)) (hf : w.cell? ⟨C, 0, none⟩ = some (.func (.func 38) #[] #[.pointer (some ⟨B, 0, none⟩)])) :
    Calls Try.prog 39 #[.agg #[.int .i64 s.nt, .int .u64 s.set.a, .int .u64 s.set.b, .int .u64 s.set.c, .int .u64 s.set.d], .pointer (some ⟨C, 0, none⟩)] w fun e w' => e = .returned (.bool (s.okB n)) ∧ Below w.heap.size w w' := by
  have he := fun w => eq49z s.set w
  have HK : Hid _ := fun k W h => isNt_any n k B W h
  have hcB : (w.alloc (.cells #[.int .i64 s.nt, .int .u64 s.set.a, .int .u64 s.set.b, .int .u64 s.set.c, .int .u64 s.set.d] 56)).cell? ⟨B, 0, none⟩ = some (.int .i64 n) := by rw [World.cell?_alloc_past _ _ _ hB]; exact hc
  unfold Ks.okB
  generalize s.set.same St.zero = z at *
  by_cases h1 : s.nt = -1
  · have e1 : (s.nt == -1) = true := by simp [h1]
    rw [e1]
    go_enter Try.func39, Try.ntmps39
    go_wp2
    go_ret
    exact ⟨rfl, (Below.refl _ _).alloc (Nat.le_refl _) _⟩
  · have e1 : (s.nt == -1) = false := by simp [h1]
    rw [e1]
    go_enter Try.func39, Try.ntmps39
    go_wp2_with (go_at_call 38; refine (HK.out _ _ hcB).mono ?_)
    rintro e w2 ⟨rfl, rfl⟩
    cases hx : isN n s.nt
    · go_wp2
      go_ret
      exact ⟨by rw [hx]; rfl, (Below.refl _ _).alloc (Nat.le_refl _) _⟩
    · go_wp2
      go_ret
      exact ⟨by rw [hx]; rfl, (Below.refl _ _).alloc (Nat.le_refl _) _⟩

def gV (G : Gm) (a : Option Addr) (c : Nat) : Value := .agg #[.int .i64 G.nts, .int .i64 G.start, .slice a G.rules.length c]
theorem cell_new {w : World} {cs : Array Value} {t : TypeId} {v : Value} (k : Nat) (h : cs[k]? = some v) : (w.alloc (.cells cs t)).cell? ⟨w.heap.size, k, none⟩ = some v := by
  rw [World.cell?_alloc_at _ _ _ _ rfl]; simpa using h
set_option maxRecDepth 100000 in
set_option maxHeartbeats 4000000 in
theorem right_any (G : Gm) (a : Option Addr) (c : Nat) (w : World) (hR : RAt w w.heap.size a G.rules) :
    Calls Try.prog 13 #[.agg #[.int .i64 G.nts, .int .i64 G.start, .slice a G.rules.length c]] w fun e w' => e = .returned (.int .i64 (if G.okB then 0 else 3)) ∧ Below w.heap.size w w' := by
  have hlen := hR.len
  obtain ⟨res, HR⟩ : ∃ res : Int, Hid ((if G.okB then 0 else 3) = res) := ⟨_, rfl⟩
  rw [HR.out]
  have H0 : Hid (G.okB = true → res = 0) := fun h => by rw [← HR.out, h]; rfl
  have H3 : Hid (G.okB = false → res = 3) := fun h => by rw [← HR.out, h]; rfl
  clear HR
  have hmf := hmf
  have HK : Hid _ := fun k W h => isNt_any G.nts k w.heap.size W h
  have hc0 : ((w.alloc (.cells #[.int .i64 G.nts, .int .i64 G.start, .slice a G.rules.length c] 24)).alloc (.cells #[.func (.func 38) #[] #[.pointer (some ⟨w.heap.size, 0, none⟩)]] 57)).cell? ⟨w.heap.size, 0, none⟩ = some (.int .i64 G.nts) := by
    rw [World.cell?_alloc_past _ _ _ (by simp)]; exact cell_new 0 rfl
  have hB0 : Below w.heap.size w ((w.alloc (.cells #[.int .i64 G.nts, .int .i64 G.start, .slice a G.rules.length c] 24)).alloc (.cells #[.func (.func 38) #[] #[.pointer (some ⟨w.heap.size, 0, none⟩)]] 57)) := ((Below.refl _ _).alloc (Nat.le_refl _) _).alloc (by simp) _
  by_cases h1 : G.nts < 1
  · have HN : Hid (G.okB = false) := by show _ = _; unfold Gm.okB; simp [show ¬ 1 ≤ G.nts by omega]
    go_enter Try.func13, Try.ntmps13
    go_wp2
    go_ret
    exact ⟨by rw [H3.out HN.out]; rfl, hB0⟩
  have h1' : decide (G.nts < 1) = false := by simp; omega
  by_cases h2 : 4096 < G.nts
  · have HN : Hid (G.okB = false) := by show _ = _; unfold Gm.okB; simp [show ¬ G.nts ≤ 4096 by omega]
    go_enter Try.func13, Try.ntmps13
    go_wp2
    go_ret
    exact ⟨by rw [H3.out HN.out]; rfl, hB0⟩
  have h2' : decide (4096 < G.nts) = false := by simp; omega
  cases h3 : isN G.nts G.start
  · have HN : Hid (G.okB = false) := by show _ = _; unfold Gm.okB; simp [h3]
    go_enter Try.func13, Try.ntmps13
    go_wp2_with (go_at_call 38; refine (HK.out _ _ hc0).mono ?_; rw [h3])
    go_ret
    exact ⟨by rw [H3.out HN.out]; rfl, hB0⟩
  by_cases h4 : 8192 < G.rules.length
  · have HN : Hid (G.okB = false) := by show _ = _; unfold Gm.okB; simp [show ¬ G.rules.length ≤ 8192 by omega]
    have h4' : (8192 : Int) < G.rules.length := by omega
    go_enter Try.func13, Try.ntmps13
    go_wp2_with (go_at_call 38; refine (HK.out _ _ hc0).mono ?_; rw [h3])
    go_ret
    exact ⟨by rw [H3.out HN.out]; rfl, hB0⟩
  have h4' : decide ((8192 : Int) < G.rules.length) = false := by simp; omega
  have HO : Hid (G.okB = G.rules.all (Rl.okB G.nts)) := by
    show _ = _
    unfold Gm.okB; simp [show 1 ≤ G.nts by omega, show G.nts ≤ 4096 by omega, h3, show G.rules.length ≤ 8192 by omega]
  rw [HO.out] at H0 H3
  clear HO
  go_enter Try.func13, Try.ntmps13
  go_wp2_with (go_at_call 38; refine (HK.out _ _ hc0).mono ?_; rw [h3])
  generalize hW0 : ((w.alloc (.cells #[.int .i64 G.nts, .int .i64 G.start, .slice a G.rules.length c] 24)).alloc (.cells #[.func (.func 38) #[] #[.pointer (some ⟨w.heap.size, 0, none⟩)]] 57)) = W0 at *
  have hS0 : W0.heap.size = w.heap.size + 2 := by rw [← hW0]; simp
  have hf0 : W0.cell? ⟨w.heap.size + 1, 0, none⟩ = some (.func (.func 38) #[] #[.pointer (some ⟨w.heap.size, 0, none⟩)]) := by
    rw [← hW0]; have := cell_new (w := (w.alloc (.cells #[.int .i64 G.nts, .int .i64 G.start, .slice a G.rules.length c] 24))) (cs := #[.func (.func 38) #[] #[.pointer (some ⟨w.heap.size, 0, none⟩)]]) (t := 57) 0 rfl
    simp only [World.size_alloc] at this; exact this
  clear hW0
  go_loopw [33] (fun i W => ∃ k : Nat, k ≤ G.rules.length ∧ i = .int .i64 k ∧ (G.rules.take k).all (Rl.okB G.nts) = true ∧ Below (w.heap.size + 2) W0 W) (fun i _ => G.rules.length - (intOf i).toNat)
  case atStart => exact ⟨0, by omega, rfl, rfl, Below.refl _ _⟩
  case round =>
    obtain ⟨k, hk, rfl, ha, hB⟩ := hrel
    have hBw : Below w.heap.size w wr := hB0.trans (hB.mono (by omega))
    have hsz := hB.size
    by_cases hlt : k < G.rules.length
    · obtain ⟨r, hr⟩ : ∃ r, G.rules[k]? = some r := ⟨G.rules[k], by simp [hlt]⟩
      obtain ⟨b, o, sa, sc, rfl, hb, hK, c0, c1⟩ := (hR.keep hBw).cells k r hr
      have hkl := hK.len
      have HA : Hid (Rl.okB G.nts r = false → G.rules.all (Rl.okB G.nts) = false) := fun h => by
        cases hx : G.rules.all (Rl.okB G.nts)
        · rfl
        · exact absurd (List.all_eq_true.1 hx r (List.mem_of_getElem? hr)) (by simp [h])
      have HT : Hid (Rl.okB G.nts r = true → (G.rules.take (k + 1)).all (Rl.okB G.nts) = true) := fun h => by rw [List.take_add_one, hr]; simpa [ha] using h
      have d0 : wr.cell? ⟨w.heap.size, 0, none⟩ = some (.int .i64 G.nts) := (hB.cell (p := ⟨w.heap.size, 0, none⟩) (by simp)).trans hc0
      have d1 : wr.cell? ⟨w.heap.size + 1, 0, none⟩ = some (.func (.func 38) #[] #[.pointer (some ⟨w.heap.size, 0, none⟩)]) := (hB.cell (p := ⟨w.heap.size + 1, 0, none⟩) (by simp)).trans hf0
      obtain ⟨W1, hW1⟩ : ∃ W1, wr.alloc (.cells #[.int .i64 r.lhs, .slice sa r.rhs.length sc] 52) = W1 := ⟨_, rfl⟩
      have hB1 : Below wr.heap.size wr W1 := by rw [← hW1]; exact (Below.refl _ _).alloc (Nat.le_refl _) _
      have hs1 : W1.heap.size = wr.heap.size + 1 := by rw [← hW1]; simp
      have e0 : W1.cell? ⟨w.heap.size, 0, none⟩ = some (.int .i64 G.nts) := (hB1.cell (p := ⟨w.heap.size, 0, none⟩) (by simp; omega)).trans d0
      have e1 : W1.cell? ⟨w.heap.size + 1, 0, none⟩ = some (.func (.func 38) #[] #[.pointer (some ⟨w.heap.size, 0, none⟩)]) := (hB1.cell (p := ⟨w.heap.size + 1, 0, none⟩) (by simp; omega)).trans d1
      have e2 : W1.cell? ⟨wr.heap.size, 0, none⟩ = some (.int .i64 r.lhs) := by rw [← hW1]; exact cell_new 0 rfl
      have e3 : W1.cell? ⟨wr.heap.size, 1, none⟩ = some (.slice sa r.rhs.length sc) := by rw [← hW1]; exact cell_new 1 rfl
      have hBF : Below w.heap.size w W1 := hBw.trans (hB1.mono (by omega))
      have hB2 : Below (w.heap.size + 2) W0 W1 := hB.trans (hB1.mono (by omega))
      have H38 : Hid _ := fun (_ : Unit) => isNt_any G.nts r.lhs w.heap.size W1 e0
      have H40 : Hid _ := fun (_ : Unit) => all_any 39 #[.pointer (some ⟨w.heap.size + 1, 0, none⟩)] (Ks.okB G.nts) r.rhs sa sc W1 ((hK.keep (hB1.mono (by omega))).mono (by omega)) (enters_of Try.func39 (by kernel_rfl) rfl)
        (fun s hs W hW => isSym_any G.nts s w.heap.size (w.heap.size + 1) W (by have := hW.size; omega) (by have := hW.size; omega) ((hW.cell (p := ⟨w.heap.size, 0, none⟩) (by simp; omega)).trans e0) ((hW.cell (p := ⟨w.heap.size + 1, 0, none⟩) (by simp; omega)).trans e1))
      clear ha hr hR hc0 hf0 hB0 d0
      have HL : Hid (Rl.okB G.nts r = (isN G.nts r.lhs && decide (r.rhs.length ≤ 80) && r.rhs.all (Ks.okB G.nts))) := rfl
      cases hx1 : isN G.nts r.lhs
      · rw [hx1] at H38
        have HNO : Hid _ := HA.out (by rw [HL.out, hx1]; rfl)
        clear HA HT HL H40
        go_wp2_with (go_at_call 38; refine (H38.out ()).mono ?_; rintro e w2 ⟨rfl, rfl⟩)
        go_ret
        exact ⟨by rw [H3.out HNO.out]; rfl, hBF⟩
      · rw [hx1] at H38
        by_cases h80 : 80 < r.rhs.length
        · have HNO : Hid _ := HA.out (by rw [HL.out, decide_eq_false (show ¬ r.rhs.length ≤ 80 by omega)]; simp)
          have h80' : (80 : Int) < r.rhs.length := by omega
          clear HA HT HL H40
          go_wp2_with (go_at_call 38; refine (H38.out ()).mono ?_; rintro e w2 ⟨rfl, rfl⟩)
          go_ret
          exact ⟨by rw [H3.out HNO.out]; rfl, hBF⟩
        · have h80' : decide ((80 : Int) < r.rhs.length) = false := by simp; omega
          have h80a : decide (r.rhs.length ≤ 80) = true := by simp; omega
          rw [hx1, h80a] at HL
          clear h80a h80
          generalize r.rhs.all (Ks.okB G.nts) = x at *
          go_wp2_with (first | (go_at_call 38; refine (H38.out ()).mono ?_; rintro e w2 ⟨rfl, rfl⟩) | (go_at_call 40; refine (H40.out ()).mono ?_))
          rintro e w2 ⟨rfl, hb2⟩
          have hB3 : Below (w.heap.size + 2) W0 w2 := hB2.trans (hb2.mono (by omega))
          have hBF3 : Below w.heap.size w w2 := hBF.trans (hb2.mono (by omega))
          cases x
          · have HNO : Hid _ := HA.out HL.out
            go_wp2
            go_ret
            exact ⟨by rw [H3.out HNO.out]; rfl, hBF3⟩
          · have hyes := HT.out HL.out
            go_wp2
            exact ⟨⟨k + 1, by omega, by go_num, hyes, hB3⟩, by simp [intOf]; omega⟩
    · obtain rfl : k = G.rules.length := by omega
      rw [List.take_length] at ha
      have HA1 : Hid _ := ha
      clear ha
      go_wp2
      go_ret
      exact ⟨by rw [H0.out HA1.out]; rfl, hBw⟩
end Go.Proofs.Ytopbibhpekjaeaa
