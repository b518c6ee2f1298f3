/- (*scanner).skip, at every text and place. -/
import Derived.Test.YtbbmjnhbmcbehaaN7
import Derived.Deep.RegionWith
import Derived.BigQuiet
namespace Go.Proofs.Ytbbmjnhbmcbehaa
open Go.RowKit

attribute [local go_sem] setCell_drewN
/-- The scanner's box. -/
def Sc (W : World) (b : Nat) (x : ByteArray) (p ln bg : Nat) : Prop := Blk W b 50 #[.string x, .int .i64 (p : Int), .int .i64 (ln : Int), .int .i64 (bg : Int)]
def scAt (W : World) (b : Nat) : Nat := match W.cell? ⟨b, 1, none⟩ with | some (.int _ i) => i.toNat | _ => 0
theorem Sc.pos {W : World} {b : Nat} {x : ByteArray} {p ln bg : Nat} (h : Sc W b x p ln bg) : scAt W b = p := by
  unfold scAt; rw [Blk.cell h 1 (v := .int .i64 (p : Int)) rfl]; simp
theorem meas {W w : World} {b : Nat} {x : ByteArray} {p ln bg q n g : Nat} (h : Sc W b x p ln bg) (h2 : Sc w b x q n g) (hlt : q < p) (hs : q < x.size) : x.size - scAt W b < x.size - scAt w b := by
  rw [h.pos, h2.pos]; omega
theorem grown_drewN {w W : World} {r : Option Nat} (h : w.grownBy W r) (n : Nat) : w.grownBy (W.drewN n) r := ⟨h.os, h.tape, h.output, h.size, h.block⟩
theorem grown_refl (w : World) (r : Option Nat) : w.grownBy w r := ⟨rfl, rfl, rfl, Nat.le_refl _, fun _ _ _ => rfl⟩
theorem grown_trans {a b c : World} {r : Option Nat} (h : a.grownBy b r) (h2 : b.grownBy c r) : a.grownBy c r := ⟨h2.os.trans h.os, h2.tape.trans h.tape, h2.output.trans h.output, Nat.le_trans h.size h2.size, fun k hk hne => (h2.block k (Nat.lt_of_lt_of_le hk h.size) hne).trans (h.block k hk hne)⟩
theorem skp_rem : ∀ (l : List UInt8) (p ln bg : Nat), skp l true p ln bg = skp (l.drop (lspan not10 l)) false (p + lspan not10 l) ln bg
  | [], p, ln, bg => rfl
  | c :: l, p, ln, bg => by
    by_cases h : c.toNat = 10
    · have : lspan not10 (c :: l) = 0 := by simp [lspan, not10, h]
      rw [this]; simp [skp, h]
    · have hs : lspan not10 (c :: l) = lspan not10 l + 1 := by simp [lspan, not10, h]
      have h1 : skp (c :: l) true p ln bg = skp l true (p + 1) ln bg := by simp [skp, h]
      rw [h1, hs, skp_rem l]
      simp only [List.drop_succ_cons]
      congr 1
      omega
set_option maxRecDepth 100000 in
set_option maxHeartbeats 4000000 in
theorem skip_any (x : ByteArray) (b p ln bg : Nat) (w : World) (hx : x.size ≤ 65536) (hp : p ≤ x.size) (hln : ln ≤ p + 1) (hbg : bg ≤ p) (hb : Sc w b x p ln bg) :
    Calls Try.prog 29 #[.pointer (some ⟨b, 0, none⟩)] w fun e w' => e = .returned (.tuple #[]) ∧ ∃ p' ln' bg', skp (x.data.toList.drop p) false p ln bg = (x.data.toList.drop p', p', ln', bg') ∧ p ≤ p' ∧ p' ≤ x.size ∧ ln' ≤ p' + 1 ∧ bg' ≤ p' ∧ Sc w' b x p' ln' bg' ∧ w.grownBy w' (some b) ∧ w'.heap.size = w.heap.size := by
  obtain ⟨S, hS⟩ : ∃ S, skp (x.data.toList.drop p) false p ln bg = S := ⟨_, rfl⟩
  rw [hS]
  go_enter Try.func29, Try.ntmps29
  go_wp2
  go_loopw [2] (fun _ wr => ∃ p1 ln1 bg1, skp (x.data.toList.drop p1) false p1 ln1 bg1 = S ∧ p ≤ p1 ∧ p1 ≤ x.size ∧ ln1 ≤ p1 + 1 ∧ bg1 ≤ p1 ∧ Sc wr b x p1 ln1 bg1 ∧ w.grownBy wr (some b) ∧ wr.heap.size = w.heap.size) (fun _ wr => x.size - scAt wr b)
  case atStart => exact ⟨p, ln, bg, hS, Nat.le_refl _, hp, hln, hbg, hb, grown_refl _ _, rfl⟩
  case round =>
    clear hS hp hln hbg hb
    obtain ⟨q, n, g, hS, hpq, hq, hn, hg, hb, hgr, hsz⟩ := hrel
    have HS : Hid _ := hS
    clear hS
    have e0 := Blk.cell hb 0 (v := .string x) rfl
    have e1 := Blk.cell hb 1 (v := .int .i64 (q : Int)) rfl
    have e2 := Blk.cell hb 2 (v := .int .i64 (n : Int)) rfl
    have e3 := Blk.cell hb 3 (v := .int .i64 (g : Int)) rfl
    have z := Blk.frozen hb
    have hl := Blk.lt hb
    have HZ : Hid _ := hsz
    clear hsz
    by_cases hlt : q < x.size
    · have hlt' : (q : Int) < x.size := by omega
      have b0 := bt_eq x q hlt
      have hc := bt_lt x q
      rw [drop_at x q hlt] at HS
      simp only [skp, b0] at HS
      generalize bt x q = c at *
      have hcase : (c = 32 ∨ c = 9 ∨ c = 13) ∨ c = 10 ∨ c = 35 ∨ (c ≠ 32 ∧ c ≠ 9 ∧ c ≠ 13 ∧ c ≠ 10 ∧ c ≠ 35) := by omega
      rcases hcase with h | rfl | rfl | h
      · rw [if_neg (by omega), if_neg (by simp), if_pos h] at HS
        have hst : Sc (wr.setCell ⟨b, 1, none⟩ (.int .i64 ((q : Int) + 1))) b x (q + 1) n g := Blk.set hb 1 (.int .i64 ((q : Int) + 1))
        have hgs := grown_trans hgr (grownBy_setCell wr b 1 (.int .i64 ((q : Int) + 1)))
        rcases h with rfl | rfl | rfl
        all_goals
          go_wp2
          go_quiet (fail)
          go_wp2
          go_quiet (fail)
          go_wp2
          go_roundw
          case rel => exact ⟨q + 1, n, g, HS.out, by omega, by omega, by omega, by omega, hst, grown_drewN hgs _, by have := HZ.out; simpa using this⟩
          case measure => exact meas (show Sc (World.drewN _ _) b x (q + 1) n g from hst) hb (by omega) hlt
      · rw [if_pos rfl] at HS
        have hst : Sc (((wr.setCell ⟨b, 1, none⟩ (.int .i64 ((q : Int) + 1))).setCell ⟨b, 2, none⟩ (.int .i64 ((n : Int) + 1))).setCell ⟨b, 3, none⟩ (.int .i64 ((q : Int) + 1))) b x (q + 1) (n + 1) (q + 1) := Blk.set (Blk.set (Blk.set hb 1 (.int .i64 ((q : Int) + 1))) 2 (.int .i64 ((n : Int) + 1))) 3 (.int .i64 ((q : Int) + 1))
        have hgs := grown_trans (grown_trans (grown_trans hgr (grownBy_setCell wr b 1 (.int .i64 ((q : Int) + 1)))) (grownBy_setCell _ b 2 (.int .i64 ((n : Int) + 1)))) (grownBy_setCell _ b 3 (.int .i64 ((q : Int) + 1)))
        go_wp2
        go_quiet (fail)
        go_wp2
        go_quiet (fail)
        go_wp2
        go_roundw
        case rel => exact ⟨q + 1, n + 1, q + 1, HS.out, by omega, by omega, by omega, by omega, hst, grown_drewN hgs _, by have := HZ.out; simpa using this⟩
        case measure => exact meas (show Sc (World.drewN _ _) b x (q + 1) (n + 1) (q + 1) from hst) hb (by omega) hlt
      · rw [if_neg (by omega), if_neg (by simp), if_neg (by omega), if_pos rfl, skp_rem] at HS
        have HR : Hid _ := fun w => spanR_any (x.extract q x.size) w
        rw [extract_post] at HR
        have hk : lspan not10 (x.data.toList.drop q) = lspan not10 (x.data.toList.drop (q + 1)) + 1 := by rw [drop_at x q hlt]; simp [lspan, not10, b0]
        have hkl := lspan_le not10 (x.data.toList.drop q)
        rw [List.length_drop, list_len] at hkl
        rw [List.drop_drop] at HS
        generalize lspan not10 (x.data.toList.drop (q + 1)) = k at *
        rw [hk] at HR hkl
        clear hk
        have hkl' : (q : Int) + (k + 1) ≤ x.size := by omega
        have hwr : IntKind.i64.wrap ((q : Int) + ((k : Int) + 1)) = ((q + 1 + k : Nat) : Int) := by rw [wrap_small _ (by omega) (by omega)]; omega
        have hst : Sc (wr.setCell ⟨b, 1, none⟩ (.int .i64 (IntKind.i64.wrap ((q : Int) + ((k : Int) + 1))))) b x (q + 1 + k) n g := by
          rw [hwr]; exact Blk.set hb 1 (.int .i64 (((q + 1 + k : Nat) : Int)))
        have hgs := grown_trans hgr (grownBy_setCell wr b 1 (.int .i64 (IntKind.i64.wrap ((q : Int) + ((k : Int) + 1)))))
        clear hwr
        go_wp2
        go_quiet (fail)
        go_wp2
        go_quiet (fail)
        go_wp2
        go_region_with (go_at_call 53; refine (HR.out _).mono ?_; rintro e w' ⟨rfl, rfl⟩)
        all_goals go_wp2
        all_goals exact ⟨⟨q + 1 + k, n, g, HS.out, by omega, by omega, by omega, by omega, hst, grown_drewN hgs _, by have := HZ.out; simpa using this⟩, meas (show Sc (World.drewN _ _) b x (q + 1 + k) n g from hst) hb (by omega) hlt⟩
      · rw [if_neg (by omega), if_neg (by simp), if_neg (by omega), if_neg (by omega)] at HS
        have a1 : ((c : Int) == 32) = false := by simp; omega
        have a2 : ((c : Int) == 9) = false := by simp; omega
        have a3 : ((c : Int) == 13) = false := by simp; omega
        have a4 : ((c : Int) == 10) = false := by simp; omega
        have a5 : ((c : Int) == 35) = false := by simp; omega
        clear h
        go_wp2
        go_quiet (fail)
        go_wp2
        go_quiet (fail)
        go_wp2
        exact bodyPost_ret (v := .tuple #[]) (by simp [results, Try.results29, go_sem]) rfl ⟨rfl, q, n, g, by rw [← HS.out, drop_at x q hlt], hpq, hq, hn, hg, hb, grown_drewN hgr _, HZ.out⟩
    · have hlt' : ¬ (q : Int) < x.size := by omega
      go_wp2
      go_quiet (fail)
      go_wp2
      exact ⟨rfl, .tuple #[], by simp [results, Try.results29, go_sem], rfl, q, n, g, by rw [← HS.out, drop_end x q (by omega)]; rfl, hpq, hq, hn, hg, hb, grown_drewN hgr _, HZ.out⟩
end Go.Proofs.Ytbbmjnhbmcbehaa
