/- Scan, at every text. -/
import Derived.Test.YtbbmjnhbmcbehaaF1
namespace Go.Proofs.Ytbbmjnhbmcbehaa
open Go.RowKit

theorem info35 : (Try.prog.info? 35).map (fun i => (i.zero, i.size, i.bytes)) = some (some (.agg #[.int .i64 0, .string ⟨#[]⟩, .slice none 0 0, .int .u64 0, .int .u64 0, .int .u64 0, .int .u64 0, .int .i64 0, .int .i64 0, .int .i64 0, .int .i64 0]), 11, 112) := by kernel_rfl
theorem eleven_new (w : World) (t : TypeId) (x0 x1 x2 x3 x4 x5 x6 x7 x8 x9 x10 : Value) : ∀ j u, [x0, x1, x2, x3, x4, x5, x6, x7, x8, x9, x10][j]? = some u → (w.alloc (.cells #[x0, x1, x2, x3, x4, x5, x6, x7, x8, x9, x10] t)).cell? ((⟨w.heap.size, 0, none⟩ : Addr).add j) = some u := by
  intro j u hj
  have hb := Blk.new w t #[x0, x1, x2, x3, x4, x5, x6, x7, x8, x9, x10]
  have := hb.cell j (v := u) (by simpa using hj)
  have e : (⟨w.heap.size, 0, none⟩ : Addr).add j = ⟨w.heap.size, j, none⟩ := by
    unfold Addr.add; split <;> simp_all
  rw [e]; exact this
/-- What Scan owes. -/
def Scans (w : World) (S : List Wd × Nat × Nat) (e : Ending) (w' : World) : Prop :=
  ∃ lv L, e = .returned (.tuple #[lv, fv S.2.1 S.2.2]) ∧ L.map (·.1) = S.1 ∧ Words w' w.heap.size lv L ∧ Below w.heap.size w w'
theorem scansV_eq {S : List Wd × Nat × Nat} {ws : List Wd} {b c : Nat} (h : S = (ws, b, c)) (v : Value) : Ending.returned (.tuple #[v, .agg #[.int .i64 (b : Int), .int .i64 (c : Int)]]) = .returned (.tuple #[v, fv S.2.1 S.2.2]) := by rw [h]; rfl
abbrev zw (x : ByteArray) (w : World) : World := (w.alloc (.cells #[.int .i64 0, .int .i64 0] 26)).alloc (.cells #[.string x, .int .i64 0, .int .i64 1, .int .i64 0] 50)
theorem Words.put2 {W : World} {base c : Nat} {lv : Value} {L : List (Wd × Value)} (h : Words W base lv L) (hc : c < base) (u0 u1 : Value) : Words ((W.setCell ⟨c, 0, none⟩ u0).setCell ⟨c, 1, none⟩ u1) base lv L :=
  (h.kept (grownBy_setCell W c 0 u0) hc).kept (grownBy_setCell _ c 1 u1) hc
set_option maxRecDepth 100000 in
set_option maxHeartbeats 8000000 in
theorem scan_any (x : ByteArray) (w : World) : Calls Try.prog 13 #[.string x] w (Scans w (scan x.data.toList)) := by
  obtain ⟨i0, hi, hz0, hz1, hz2⟩ := info_parts info35
  obtain ⟨S, hS⟩ : ∃ S, scan x.data.toList = S := ⟨_, rfl⟩
  rw [hS]
  unfold scan at hS
  by_cases h1 : 65536 < x.size
  · rw [if_pos (by rw [list_len]; exact h1)] at hS
    go_enter Try.func13, Try.ntmps13
    go_wp2
    exact bodyPost_ret (v := .tuple #[.slice none 0 0, .agg #[.int .i64 ((0 : Nat) : Int), .int .i64 ((2 : Nat) : Int)]]) (by simp [results, Try.results13, go_sem]) rfl ⟨_, [], scansV_eq hS.symm _, by rw [← hS]; rfl, Words.nil _ _, (Below.refl _ _).alloc (Nat.le_refl _) _⟩
  rw [if_neg (by rw [list_len]; exact h1), list_len] at hS
  have hx : x.size ≤ 65536 := by omega
  have hxi : (x.size : Int) ≤ 65536 := by omega
  have hF0 : Blk (zw x w) w.heap.size 26 #[.int .i64 0, .int .i64 0] := (Blk.new w 26 _).alloc _
  have hC0 : Sc (zw x w) (w.heap.size + 1) x 0 1 0 := by
    have := Blk.new (w.alloc (.cells #[.int .i64 0, .int .i64 0] 26)) 50 #[.string x, .int .i64 0, .int .i64 1, .int .i64 0]
    rw [World.size_alloc] at this; exact this
  have hB0 : Below w.heap.size w (zw x w) := ((Below.refl _ _).alloc (Nat.le_refl _) _).alloc (by simp) _
  clear h1
  go_enter Try.func13, Try.ntmps13
  go_wp2
  go_loopw [5] (fun lv wr => ∃ (f p ln bg : Nat) (L : List (Wd × Value)), p ≤ x.size ∧ ln ≤ p + 1 ∧ bg ≤ p ∧ L.length ≤ p ∧ x.size < p + f ∧ scn f (x.data.toList.drop p) p ln bg (L.map (·.1)) = S ∧ Sc wr (w.heap.size + 1) x p ln bg ∧ Blk wr w.heap.size 26 #[.int .i64 0, .int .i64 0] ∧ Words wr (w.heap.size + 2) lv L ∧ Below w.heap.size w wr) (fun _ wr => x.size + 1 - scAt wr (w.heap.size + 1))
  case atStart => exact ⟨x.size + 1, 0, 1, 0, [], Nat.zero_le _, by omega, by omega, by simp, by omega, hS, hC0, hF0, Words.nil _ _, hB0⟩
  case round =>
    clear hS hC0 hF0 hB0
    obtain ⟨f, p, ln, bg, L, hp, hln, hbg, hLp, hf, hS, hC, hF, hWs, hB⟩ := hrel
    have hmeas := hC.pos
    have HM : Hid _ := hmeas
    clear hmeas
    have HK : Hid _ := fun (_ : Unit) => skip_any x (w.heap.size + 1) p ln bg wr hx hp hln hbg hC
    have lF := hF.lt
    have hbs : w.heap.size + 2 ≤ wr.heap.size := Blk.lt hC
    go_wp2_with (go_at_call 29; refine (HK.out ()).mono ?_)
    rintro e w1 ⟨rfl, p', ln', bg', hsk, hpp, hp', hln', hbg', hC1, hg1, hz⟩
    have hF1 := hF.kept hg1 (by simp)
    have hW1 := hWs.kept hg1 (Nat.lt_succ_self _)
    have hB1 := hB.grown hg1 hB.size (fun k hk => by simp at hk; omega)
    obtain ⟨f, rfl⟩ : ∃ f', f = f' + 1 := ⟨f - 1, by omega⟩
    simp only [scn, hsk] at hS
    clear hsk HK hC hF hWs hB hg1
    have HS : Hid _ := hS
    clear hS
    have HR : Hid _ := fun w => readW_any (x.extract p' x.size) w (by simp; omega)
    rw [extract_post] at HR
    have hlen := rdw_len (x.data.toList.drop p')
    have hfat := rdw_fat (x.data.toList.drop p')
    have hdl : (x.data.toList.drop p').length = x.size - p' := by rw [List.length_drop, list_len]
    rw [hdl] at hlen hfat
    have HDN : Hid ((x.data.toList.drop p' = [] ↔ p' = x.size)) := by
      constructor
      · intro h; rw [h] at hdl; simp at hdl; omega
      · intro h; exact drop_end x p' (by omega)
    have HTL : Hid _ := hdl
    clear hdl
    have e1 := Blk.cell hC1 1 (v := .int .i64 (p' : Int)) rfl
    have z1 := Blk.frozen hC1
    have l1 := Blk.lt hC1
    have hp'i : (p' : Int) ≤ x.size := by omega
    have hbs1 : w.heap.size + 2 ≤ w1.heap.size := l1
    clear hz
    generalize hq : rdw (x.data.toList.drop p') = q at *
    clear hq
    go_wp2_with (go_at_call 30; refine (HR.out _).mono ?_)
    rintro e w2 ⟨v, rfl, hrow, hb2⟩
    have hC2 : Sc w2 (w.heap.size + 1) x p' ln' bg' := Blk.after hC1 hb2
    have hF2 := hF1.after hb2
    have hW2 := hW1.after hb2
    have hB2 := below_of hB1 hb2
    have hrow2 := row_mono hrow hbs1
    rw [extract_post]
    obtain ⟨va, vc, rfl⟩ := row_slice hrow2
    clear hrow hb2 HR hC1 hF1 hW1 hB1 e1 z1
    have e1 := Blk.cell hC2 1 (v := .int .i64 (p' : Int)) rfl
    obtain ⟨f0, f1⟩ := (show Blk w2 w.heap.size 26 #[.int .i64 0, .int .i64 0] from hF2).pair
    have z1 := Blk.frozen hC2
    have z2 := hF2.frozen
    have l2 := Blk.lt hC2
    have l3 := hF2.lt
    simp only [rwV, wv, fv]
    by_cases hcd : q.code = 0
    · obtain ⟨hl1, hl2, hl3⟩ := hlen hcd
      rw [if_neg (by simpa using hcd)] at HS
      clear hlen
      obtain ⟨kind, len, bs, st, nn, fat, code⟩ := q
      simp only at hcd
      subst hcd
      simp only at HS hl1 hl2 hl3 hfat hrow2
      replace hl3 := hl3.trans HDN.out
      have ht : (⟨((x.data.toList.drop p').take len).toArray⟩ : ByteArray).size = len := by
        show ((x.data.toList.drop p').take len).length = _
        rw [List.length_take, HTL.out]; omega
      have hC3 : Sc ((w2.alloc (.cells #[.int .i64 (kind : Int), .string ⟨((x.data.toList.drop p').take len).toArray⟩, .slice va bs.length vc, .int .u64 (st.a : Int), .int .u64 (st.b : Int), .int .u64 (st.c : Int), .int .u64 (st.d : Int), .int .i64 (nn : Int), .int .i64 0, .int .i64 0, .int .i64 0] 35)).alloc (.cells #[.int .i64 (fat : Int), .int .i64 0] 26)) (w.heap.size + 1) x p' ln' bg' := Blk.alloc (Blk.alloc hC2 _) _
      have hF3 := (hF2.alloc (.cells #[.int .i64 (kind : Int), .string ⟨((x.data.toList.drop p').take len).toArray⟩, .slice va bs.length vc, .int .u64 (st.a : Int), .int .u64 (st.b : Int), .int .u64 (st.c : Int), .int .u64 (st.d : Int), .int .i64 (nn : Int), .int .i64 0, .int .i64 0, .int .i64 0] 35)).alloc (.cells #[.int .i64 (fat : Int), .int .i64 0] 26)
      have hW3 := (hW2.alloc (.cells #[.int .i64 (kind : Int), .string ⟨((x.data.toList.drop p').take len).toArray⟩, .slice va bs.length vc, .int .u64 (st.a : Int), .int .u64 (st.b : Int), .int .u64 (st.c : Int), .int .u64 (st.d : Int), .int .i64 (nn : Int), .int .i64 0, .int .i64 0, .int .i64 0] 35)).alloc (.cells #[.int .i64 (fat : Int), .int .i64 0] 26)
      have hr3 := (hrow2.alloc (.cells #[.int .i64 (kind : Int), .string ⟨((x.data.toList.drop p').take len).toArray⟩, .slice va bs.length vc, .int .u64 (st.a : Int), .int .u64 (st.b : Int), .int .u64 (st.c : Int), .int .u64 (st.d : Int), .int .i64 (nn : Int), .int .i64 0, .int .i64 0, .int .i64 0] 35)).alloc (.cells #[.int .i64 (fat : Int), .int .i64 0] 26)
      have hN3 := (Blk.new w2 35 #[.int .i64 (kind : Int), .string ⟨((x.data.toList.drop p').take len).toArray⟩, .slice va bs.length vc, .int .u64 (st.a : Int), .int .u64 (st.b : Int), .int .u64 (st.c : Int), .int .u64 (st.d : Int), .int .i64 (nn : Int), .int .i64 0, .int .i64 0, .int .i64 0]).alloc (.cells #[.int .i64 (fat : Int), .int .i64 0] 26)
      have hB3 := (hB2.alloc hB2.size (.cells #[.int .i64 (kind : Int), .string ⟨((x.data.toList.drop p').take len).toArray⟩, .slice va bs.length vc, .int .u64 (st.a : Int), .int .u64 (st.b : Int), .int .u64 (st.c : Int), .int .u64 (st.d : Int), .int .i64 (nn : Int), .int .i64 0, .int .i64 0, .int .i64 0] 35)).alloc (by have := hB2.size; simp; omega) (.cells #[.int .i64 (fat : Int), .int .i64 0] 26)
      have HP : Hid _ := fun (_ : Unit) => pass_any x (w.heap.size + 1) p' ln' bg' kind ⟨((x.data.toList.drop p').take len).toArray⟩ va bs.length vc st nn _ (by rw [ht]; omega) hbg' hC3
      rw [ht] at HP
      simp only [wv] at HP
      clear ht
      have hgl : ∀ g, (Value.ownBlock u5) = some g → g < w2.heap.size := fun g hg => (hW2.row.lt g hg).2
      clear hC3 hC2 hF2 hW2 hrow2 hB2
      go_wp2_with (go_at_call 31; refine (HP.out ()).mono ?_)
      rintro e w3 ⟨rfl, hC4, hg3⟩
      have hF4 := hF3.kept hg3 (by simp)
      have hW4 := hW3.kept hg3 (Nat.lt_succ_self _)
      have hr4 := row_kept_lt hr3 hg3 (Nat.lt_succ_self _)
      have hN4 := hN3.kept hg3 (by simp; omega)
      have hB4 := hB3.grown hg3 hB3.size (fun k hk => by simp at hk; omega)
      have hbs4 : w.heap.size + 2 ≤ w3.heap.size := Blk.lt hC4
      have hln4 := hN4.lt
      clear hF3 hW3 hr3 hN3 hB3 hg3 HP f0 f1 z1 z2 e1
      go_wp2_with (at_builtin; refine wpList_append_own _ rfl _ _ 23 rfl (w.heap.size + 2) 35 i0 (.agg #[.int .i64 0, .string ⟨#[]⟩, .slice none 0 0, .int .u64 0, .int .u64 0, .int .u64 0, .int .u64 0, .int .i64 0, .int .i64 0, .int .i64 0, .int .i64 0]) 11 112 Try.underlying23 hi hz0 hz1 hz2 rfl (by decide) _ _ _ rfl (hW4.row.alloc _) ⟨w3.heap.size, 0, none⟩ 1 1 [.int .i64 (kind : Int), .string ⟨((x.data.toList.drop p').take len).toArray⟩, .slice va bs.length vc, .int .u64 (st.a : Int), .int .u64 (st.b : Int), .int .u64 (st.c : Int), .int .u64 (st.d : Int), .int .i64 (nn : Int), .int .i64 (p' : Int), .int .i64 (ln' : Int), .int .i64 ((p' - bg' + 1 : Nat) : Int)] rfl rfl ?c1 ?c2 ?c3 ?c4 ?c5 ?_)
      case c1 => exact eleven_new _ _ _ _ _ _ _ _ _ _ _ _ _
      case c2 => intro u hu; simp at hu; rcases hu with rfl | rfl | rfl | rfl | rfl | rfl | rfl | rfl | rfl | rfl | rfl <;> rfl
      case c3 => unfold maxLen; omega
      case c4 => omega
      case c5 => simp; omega
      intro lv' w4 hown' hgrow _
      have hW5 : Words w4 (w.heap.size + 2) lv' (L ++ [(mkWd (x.data.toList.drop p') ⟨kind, len, bs, st, nn, fat, 0⟩ p' ln' bg', .slice va bs.length vc)]) := hW4.push hr4 hown' hgrow
      have hC5 : Sc w4 (w.heap.size + 1) x (p' + len) ln' bg' := (Blk.alloc hC4 (.cells #[.int .i64 (kind : Int), .string ⟨((x.data.toList.drop p').take len).toArray⟩, .slice va bs.length vc, .int .u64 (st.a : Int), .int .u64 (st.b : Int), .int .u64 (st.c : Int), .int .u64 (st.d : Int), .int .i64 (nn : Int), .int .i64 (p' : Int), .int .i64 (ln' : Int), .int .i64 ((p' - bg' + 1 : Nat) : Int)] 35)).kept hgrow (Blk.not_row hC4 (by decide) hW4.row)
      have hF5 := (hF4.alloc (.cells #[.int .i64 (kind : Int), .string ⟨((x.data.toList.drop p').take len).toArray⟩, .slice va bs.length vc, .int .u64 (st.a : Int), .int .u64 (st.b : Int), .int .u64 (st.c : Int), .int .u64 (st.d : Int), .int .i64 (nn : Int), .int .i64 (p' : Int), .int .i64 (ln' : Int), .int .i64 ((p' - bg' + 1 : Nat) : Int)] 35)).kept hgrow (hF4.not_row (by decide) hW4.row)
      have hN5 := (hN4.alloc (.cells #[.int .i64 (kind : Int), .string ⟨((x.data.toList.drop p').take len).toArray⟩, .slice va bs.length vc, .int .u64 (st.a : Int), .int .u64 (st.b : Int), .int .u64 (st.c : Int), .int .u64 (st.d : Int), .int .i64 (nn : Int), .int .i64 (p' : Int), .int .i64 (ln' : Int), .int .i64 ((p' - bg' + 1 : Nat) : Int)] 35)).kept hgrow (by intro e; have := hgl _ e.symm; omega)
      have hB5 := (hB4.alloc hB4.size (.cells #[.int .i64 (kind : Int), .string ⟨((x.data.toList.drop p').take len).toArray⟩, .slice va bs.length vc, .int .u64 (st.a : Int), .int .u64 (st.b : Int), .int .u64 (st.c : Int), .int .u64 (st.d : Int), .int .i64 (nn : Int), .int .i64 (p' : Int), .int .i64 (ln' : Int), .int .i64 ((p' - bg' + 1 : Nat) : Int)] 35)).grown hgrow (by have := hB4.size; simp; omega) (fun j hj => by have := (hW4.row.lt j hj).1; omega)
      have n0 := hN5.cell 0 (v := .int .i64 (kind : Int)) rfl
      have l5 := hF5.lt
      obtain ⟨f0, f1⟩ := (show Blk w4 w.heap.size 26 #[.int .i64 0, .int .i64 0] from hF5).pair
      have z2 := hF5.frozen
      obtain ⟨va', vc', rfl⟩ := row_slice hown'
      clear hC4 hF4 hN4 hB4 hr4 hgrow hown' hW4
      by_cases hk7 : kind = 7
      · subst hk7
        rw [if_pos rfl] at HS
        go_wp2
        refine bodyPost_ret (v := .tuple #[.slice va' (L.length + 1) vc', .agg #[.int .i64 ((0 : Nat) : Int), .int .i64 ((0 : Nat) : Int)]]) (by simp [results, Try.results13, go_sem, f0, f1]) rfl ⟨_, _, scansV_eq HS.out.symm _, ?_, (hW5.put2 (Nat.lt_add_of_pos_right (by decide)) _ _).mono (by omega), put2 hB5⟩
        rw [← HS.out]; simp
      · rw [if_neg hk7, List.drop_drop] at HS
        have hk7b : ((kind : Int) == 7) = false := by simp; omega
        have h1 := hl2 hk7
        go_wp2
        go_roundw
        case rel => exact ⟨f, p' + len, ln', bg', _, by omega, by omega, by omega, by simp; omega, by omega, by rw [List.map_append]; exact HS.out, hC5, hF5, hW5, hB5⟩
        case measure => rw [hC5.pos, HM.out]; omega
    · rw [if_pos hcd] at HS
      have hcd' : ((q.code : Int) != 0) = true := by simp; omega
      have hfi : (p' : Int) + q.fat ≤ 65536 := by omega
      clear hlen
      go_wp2
      go_region
      all_goals go_wp2
      have hB3 := (((put2 (u := .int .i64 ((p' : Int) + q.fat)) (v := .int .i64 (q.code : Int)) hB2).alloc (by have := hB2.size; simp; omega) (.cells #[.int .i64 (q.kind : Int), .string ⟨((x.data.toList.drop p').take q.len).toArray⟩, .slice va q.bytes.length vc, .int .u64 (q.set.a : Int), .int .u64 (q.set.b : Int), .int .u64 (q.set.c : Int), .int .u64 (q.set.d : Int), .int .i64 (q.n : Int), .int .i64 0, .int .i64 0, .int .i64 0] 35)).alloc (by have := hB2.size; simp; omega) (.cells #[.int .i64 (q.fat : Int), .int .i64 (q.code : Int)] 26)).drew
      refine bodyPost_ret (v := .tuple #[.slice none 0 0, .agg #[.int .i64 ((p' + q.fat : Nat) : Int), .int .i64 (q.code : Int)]]) (by simp [results, Try.results13, go_sem, f0, f1, l3]) rfl ⟨_, [], scansV_eq HS.out.symm _, by rw [← HS.out]; rfl, Words.nil _ _, hB3⟩
end Go.Proofs.Ytbbmjnhbmcbehaa
