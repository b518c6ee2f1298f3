/- The law WordsTwo, walked. -/
import Derived.Test.YtbbmjnhbmcbehaaN17
import Derived.Test.YtbbmjnhbmcbehaaP3
namespace Go.Proofs.Ytbbmjnhbmcbehaa
open Go.RowKit

theorem scn_fat : ∀ (f : Nat) (l : List UInt8) (p ln bg : Nat) (acc : List Wd), (scn f l p ln bg acc).2.1 ≤ p + l.length
  | 0, l, p, ln, bg, acc => by simp [scn]
  | f + 1, l, p, ln, bg, acc => by
    have h := skp_len l false p ln bg
    have hf := rdw_fat (skp l false p ln bg).1
    have ih := scn_fat f ((skp l false p ln bg).1.drop (rdw (skp l false p ln bg).1).len) ((skp l false p ln bg).2.1 + (rdw (skp l false p ln bg).1).len) (skp l false p ln bg).2.2.1 (skp l false p ln bg).2.2.2 (acc ++ [mkWd (skp l false p ln bg).1 (rdw (skp l false p ln bg).1) (skp l false p ln bg).2.1 (skp l false p ln bg).2.2.1 (skp l false p ln bg).2.2.2])
    have hl := rdw_len (skp l false p ln bg).1
    rw [scn_step]
    split
    · simp only; omega
    · rename_i h1
      split
      · exact Nat.zero_le _
      · have := (hl (by simpa using h1)).1
        rw [List.length_drop] at ih; omega
theorem scan_fat (l : List UInt8) : (scan l).2.1 ≤ l.length := by
  unfold scan; split
  · exact Nat.zero_le _
  · have := scn_fat (l.length + 1) l 0 1 0 []; omega
theorem scn_count : ∀ (f : Nat) (l : List UInt8) (p ln bg : Nat) (acc : List Wd), (scn f l p ln bg acc).1.length ≤ acc.length + l.length + 1
  | 0, l, p, ln, bg, acc => by simp [scn]
  | f + 1, l, p, ln, bg, acc => by
    have h := skp_len l false p ln bg
    have ih := scn_count f ((skp l false p ln bg).1.drop (rdw (skp l false p ln bg).1).len) ((skp l false p ln bg).2.1 + (rdw (skp l false p ln bg).1).len) (skp l false p ln bg).2.2.1 (skp l false p ln bg).2.2.2 (acc ++ [mkWd (skp l false p ln bg).1 (rdw (skp l false p ln bg).1) (skp l false p ln bg).2.1 (skp l false p ln bg).2.2.1 (skp l false p ln bg).2.2.2])
    have hl := rdw_len (skp l false p ln bg).1
    rw [scn_step]
    split
    · exact Nat.zero_le _
    · rename_i h1
      split
      · rw [List.length_append, List.length_singleton]; omega
      · rename_i h7
        have := hl (by simpa using h1)
        have h8 := this.2.1 h7
        rw [List.length_drop, List.length_append, List.length_singleton] at ih; omega
theorem scan_count (l : List UInt8) : (scan l).1.length ≤ l.length + 1 := by
  unfold scan; split
  · exact Nat.zero_le _
  · have := scn_count (l.length + 1) l 0 1 0 []; simpa using this
theorem scan_last (l : List UInt8) (hl : l.length ≤ 65536) (h : (scan l).2.2 = 0) : (scan l).1 ≠ [] := by
  unfold scan at h ⊢
  rw [if_neg (by omega)] at h ⊢
  obtain ⟨ws, we, e, _⟩ := scn_two _ _ _ _ _ _ (Nat.lt_succ_self _) h
  rw [e]; simp
theorem scn_code : ∀ (f : Nat) (l : List UInt8) (p ln bg : Nat) (acc : List Wd), (scn f l p ln bg acc).2.2 ≠ 0 → (scn f l p ln bg acc).1 = []
  | 0, l, p, ln, bg, acc => by simp [scn]
  | f + 1, l, p, ln, bg, acc => by
    rw [scn_step]
    split
    · intro _; rfl
    · split
      · intro h; exact absurd rfl h
      · exact scn_code f _ _ _ _ _
theorem scan_code (l : List UInt8) (h : (scan l).2.2 ≠ 0) : (scan l).1 = [] := by
  unfold scan at h ⊢; split
  · rfl
  · rename_i h1; rw [if_neg h1] at h; exact scn_code _ _ _ _ _ _ h
theorem wcells_len (L : List (Wd × Value)) : (wcells L).length = L.length * 11 := by
  induction L with
  | nil => rfl
  | cons q L ih =>
    have e : wcells (q :: L) = wcell q.1 q.2 ++ wcells L := by simp [wcells]
    have hl : (wcell q.1 q.2).length = 11 := rfl
    rw [e, List.length_append, ih, hl, List.length_cons]; omega
theorem row_cap {W : World} {base : Nat} {e : TypeId} {size : Nat} {a : Option Addr} {n c : Nat} {xs : List Value} (h : W.ownsRow base e size (.slice a n c) n xs) : n ≤ c := by
  rcases h.2 with ⟨h', h0⟩ | ⟨g, cap, cur, h', _, _, hc, _⟩
  · omega
  · cases h'; exact hc
theorem Words.one {W : World} {base : Nat} {lv : Value} {L : List (Wd × Value)} (h : Words W base lv L) : ∀ u ∈ wcells L, u.oneCell' = true := by
  intro u hu
  obtain ⟨q, hq, hu⟩ := List.mem_flatMap.1 hu
  obtain ⟨a, c, hv⟩ := row_slice (h.bytes q hq)
  unfold wcell at hu
  rw [hv] at hu
  simp at hu
  rcases hu with rfl | rfl | rfl | rfl | rfl | rfl | rfl | rfl | rfl | rfl | rfl <;> rfl
theorem Words.after' {W W' : World} {base C : Nat} {lv : Value} {L : List (Wd × Value)} (h : Words W base lv L) (hb : Below C W W') (hC : W.heap.size ≤ C) : Words W' base lv L :=
  ⟨row_belowB h.row hb (fun g hg => Nat.lt_of_lt_of_le (h.row.lt g hg).2 hC), fun q hq => row_belowB (h.bytes q hq) hb (fun g hg => Nat.lt_of_lt_of_le ((h.bytes q hq).lt g hg).2 hC)⟩
set_option maxRecDepth 100000 in
set_option maxHeartbeats 4000000 in
theorem two_walk (x y : ByteArray) (w : World) (hx : x.size ≤ 140737488355328) (hy : y.size ≤ 140737488355328) : Calls Try.prog 9 #[.string x, .string y] w fun e w' => e = .returned (.bool true) ∧ Below w.heap.size w w' := by
  obtain ⟨i0, hi, hz0, hz1, hz2⟩ := info_parts info35
  have HL : Hid _ := fun w => alive_any w
  have hxi : (x.size : Int) ≤ 140737488355328 := by omega
  have hyi : (y.size : Int) ≤ 140737488355328 := by omega
  by_cases h1 : 30000 < x.size + y.size
  · have h1' : (30000 : Int) < (x.size : Int) + y.size := by omega
    go_enter Try.func9, Try.ntmps9
    go_wp2_with (go_at_call 12; refine (HL.out _).mono ?_; rintro e w1 ⟨rfl, hb1⟩)
    go_ret
    exact ⟨rfl, hb1⟩
  have h1' : (x.size : Int) + y.size ≤ 30000 := by omega
  replace h1 : x.size + y.size ≤ 30000 := by omega
  have H1 : Hid _ := fun w => scan_any x w
  have H2 : Hid _ := fun w => scan_any y w
  have HT : Hid _ := words_two x.data.toList y.data.toList (by rw [list_len, list_len]; omega)
  have hfy := scan_fat y.data.toList
  rw [list_len] at hfy
  have HNE : Hid _ := scan_last y.data.toList (by rw [list_len]; omega)
  have hcx := scan_count x.data.toList
  have hcy := scan_count y.data.toList
  rw [list_len] at hcx hcy
  go_enter Try.func9, Try.ntmps9
  go_wp2_with (go_at_call 13; refine (H1.out _).mono ?_)
  rintro e w1 ⟨lv, L, rfl, hL, hW, hb1⟩
  generalize scan x.data.toList = Sx at *
  obtain ⟨ws, fa, fc⟩ := Sx
  generalize scan y.data.toList = Sy at *
  obtain ⟨vs, ga, gc⟩ := Sy
  simp only [fv] at *
  have F6 := Blk.new w1 26 #[.int .i64 (fa : Int), .int .i64 (fc : Int)]
  have hB1 := hb1.alloc hb1.size (.cells #[.int .i64 (fa : Int), .int .i64 (fc : Int)] 26)
  have hW1 := hW.alloc (.cells #[.int .i64 (fa : Int), .int .i64 (fc : Int)] 26)
  clear hb1 hW H1
  go_wp2_with (go_at_call 13; refine (H2.out _).mono ?_)
  rintro e w2 ⟨mv, M, rfl, hM, hV, hb2⟩
  have F6b := F6.after hb2
  have hB2 := below_of hB1 hb2
  have hW2 := hW1.after hb2
  replace hV := hV.mono hB1.size
  have F8 := Blk.new w2 26 #[.int .i64 (ga : Int), .int .i64 (gc : Int)]
  have F6c := F6b.alloc (.cells #[.int .i64 (ga : Int), .int .i64 (gc : Int)] 26)
  have hB3 := hB2.alloc hB2.size (.cells #[.int .i64 (ga : Int), .int .i64 (gc : Int)] 26)
  have hW3 := hW2.alloc (.cells #[.int .i64 (ga : Int), .int .i64 (gc : Int)] 26)
  have hV3 := hV.alloc (.cells #[.int .i64 (ga : Int), .int .i64 (gc : Int)] 26)
  obtain ⟨c0, c1⟩ := F6b.pair
  have l6 := F6b.lt
  clear F6 hB1 hW1 hb2 hB2 hW2 hV H2
  by_cases hfc : fc = 0
  · subst hfc
    obtain ⟨us, we, e1, e2, e3, e4⟩ := HT.out rfl
    clear HT
    obtain ⟨z1, hz1⟩ : ∃ z, x ++ (⟨#[10]⟩ : ByteArray) = z := ⟨_, rfl⟩
    obtain ⟨z, hz⟩ : ∃ z, z1 ++ y = z := ⟨_, rfl⟩
    have hzl : z.data.toList = x.data.toList ++ 10 :: y.data.toList := by rw [← hz, ← hz1]; simp
    have hs1 : z1.size = x.size + 1 := by rw [← hz1]; simp; rfl
    have cat1 : ∀ W, (Op.stringOp .add x ⟨#[10]⟩).run Try.prog W = .ok (.string z1) W := fun W => by rw [run_string_add_sum W _ _ (by rw [show (⟨#[10]⟩ : ByteArray).size = 1 from rfl]; omega), hz1]
    have cat2 : ∀ W, (Op.stringOp .add z1 y).run Try.prog W = .ok (.string z) W := fun W => by rw [run_string_add_sum W _ _ (by omega), hz]
    have H3 : Hid _ := fun w => scan_any z w
    rw [hzl] at H3
    generalize scan (x.data.toList ++ 10 :: y.data.toList) = Sz at *
    obtain ⟨zs, ka, kc⟩ := Sz
    simp only at e2 e3 e4 H3
    subst e2
    have HE3 : Hid _ := e3
    have HE4 : Hid _ := e4
    clear e3 e4 hz hz1 hs1 hzl
    obtain ⟨Lu, qe, rfl⟩ : ∃ Lu qe, L = Lu ++ [qe] := by
      rcases List.eq_nil_or_concat L with rfl | ⟨Lu, qe, h⟩
      · rw [e1] at hL; simp at hL
      · exact ⟨Lu, qe, by rw [h, List.concat_eq_append]⟩
    have hLu : Lu.map (·.1) = us := by
      rw [e1, List.map_append, List.map_cons, List.map_nil] at hL
      exact (List.append_inj' hL rfl).1
    have HLU : Hid _ := hLu
    have hul : Lu.length ≤ x.size := by
      have h1 : Lu.length = us.length := by rw [← hLu, List.length_map]
      rw [e1, List.length_append, List.length_singleton] at hcx; omega
    have hml : M.length ≤ y.size + 1 := by
      replace hM : M.map (·.1) = vs := hM
      rw [← hM, List.length_map] at hcy; exact hcy
    clear hcx hcy
    have HMM : Hid _ := hM
    have hrL := hW3.row
    rw [List.length_append, List.length_singleton] at hrL
    obtain ⟨g, lc, rfl⟩ := ownsRow_succ hrL
    clear hL e1 hLu hM
    obtain ⟨ma, mc, rfl⟩ := row_slice hV3.row
    simp only [fv]
    have hLn : ((Lu.length : Int) + 1 == 0) = false := beq_eq_false_iff_ne.2 (by omega)
    go_wp2_with (go_at_call 13; refine (H3.out _).mono ?_)
    rintro e w3 ⟨zv, Z, rfl, hZ, hZW, hb3⟩
    have HZ : Hid _ := hZ
    clear hZ
    replace hZW := (hZW.mono hB3.size).alloc (.cells #[.int .i64 (ka : Int), .int .i64 (kc : Int)] 26)
    have hW4 := (hW3.after hb3).alloc (.cells #[.int .i64 (ka : Int), .int .i64 (kc : Int)] 26)
    have hV4 := (hV3.after hb3).alloc (.cells #[.int .i64 (ka : Int), .int .i64 (kc : Int)] 26)
    have F8b := F8.after hb3
    have F8c := F8b.alloc (.cells #[.int .i64 (ka : Int), .int .i64 (kc : Int)] 26)
    have F10 := Blk.new w3 26 #[.int .i64 (ka : Int), .int .i64 (kc : Int)]
    have hB4 := below_of hB3 hb3
    replace hB4 := hB4.alloc hB4.size (.cells #[.int .i64 (ka : Int), .int .i64 (kc : Int)] 26)
    obtain ⟨d0, d1⟩ := F8b.pair
    have l8 := F8b.lt
    clear hW3 hV3 F8 hB3 hb3 c0 c1 F6b F6c H3 l6 hrL
    obtain ⟨za, zc, rfl⟩ := row_slice hZW.row
    by_cases hkc : kc = 0
    · subst hkc
      obtain ⟨rfl, hcw⟩ := HE3.out rfl
      have HCW : Hid _ := hcw
      clear hcw HE3 HE4 F8b F8c
      simp only [fv]
      have hrL := hW4.row
      rw [List.length_append, List.length_singleton] at hrL
      have hcap := row_cap hrL
      have hcapi : (Lu.length : Int) ≤ lc := by omega
      have hone := hW4.one
      have hone2 := hV4.one
      go_wp2_with (at_builtin; refine wpList_append_own _ rfl _ _ 23 rfl (w3.heap.size + 1) 35 i0 (.agg #[.int .i64 0, .string ⟨#[]⟩, .slice none 0 0, .int .u64 0, .int .u64 0, .int .u64 0, .int .u64 0, .int .i64 0, .int .i64 0, .int .i64 0, .int .i64 0]) 11 112 Try.underlying23 hi hz0 hz1 hz2 rfl (by decide) _ _ _ rfl (World.ownsRow_nil _ _ _ _) ⟨g, 0, none⟩ Lu.length lc (wcells Lu) rfl ?c0 ?c1 ?c2 ?c3 ?c4 ?c5 ?_)
      case c0 => exact wcells_len Lu
      case c1 =>
        intro j u hj
        have hjl : j < (wcells Lu).length := (List.getElem?_eq_some_iff.1 hj).1
        have hcl := hrL.cellAt j (by rw [wcells_len] at hjl; omega)
        rw [show wcells (Lu ++ [qe]) = wcells Lu ++ wcell qe.1 qe.2 from wcells_snoc Lu qe.1 qe.2, List.getElem?_append_left hjl, hj] at hcl
        exact hcl
      case c2 =>
        intro u hu
        refine hone u ?_
        rw [show wcells (Lu ++ [qe]) = wcells Lu ++ wcell qe.1 qe.2 from wcells_snoc Lu qe.1 qe.2]
        exact List.mem_append_left _ hu
      case c3 => unfold maxLen; omega
      case c4 => omega
      intro v1 w5 hown1 hgrow1 _
      have hX5 : Below (w3.heap.size + 1) (w3.alloc (.cells #[.int .i64 ((0 : Nat) : Int), .int .i64 ((0 : Nat) : Int)] 26)) w5 := ⟨hgrow1.os, hgrow1.tape, hgrow1.output, hgrow1.size, fun k hk => hgrow1.block k (by simpa using hk) (by simp [Value.ownBlock])⟩
      obtain ⟨va, vc, rfl⟩ := row_slice hown1
      have hM0 : 0 < M.length := by
        have h1 := HNE.out trivial
        rw [← HMM.out] at h1
        exact List.length_pos_iff.2 (fun e => h1 (by rw [e]; rfl))
      have hV5 := hV4.row
      obtain ⟨n, hn⟩ : ∃ n, M.length = n + 1 := ⟨M.length - 1, by omega⟩
      rw [hn] at hV5
      obtain ⟨gm, mc', hmv⟩ := ownsRow_succ hV5
      cases hmv
      rw [← hn] at hV5
      clear hn
      have hZX := hZW.after' hX5 (by simp)
      have hWX := hW4.after' hX5 (by simp)
      have hVX := hV4.after' hX5 (by simp)
      have F10b := F10.below hX5 (Nat.lt_succ_self _)
      have hB5 := hB4.trans (hX5.mono (by have := hB4.size; simpa using this))
      have hVr := hVX.row
      have hgl := (hown1.lt)
      go_wp2_with (at_builtin; refine wpList_append_own _ rfl _ _ 23 rfl (w3.heap.size + 1) 35 i0 (.agg #[.int .i64 0, .string ⟨#[]⟩, .slice none 0 0, .int .u64 0, .int .u64 0, .int .u64 0, .int .u64 0, .int .i64 0, .int .i64 0, .int .i64 0, .int .i64 0]) 11 112 Try.underlying23 hi hz0 hz1 hz2 rfl (by decide) _ _ _ rfl hown1 ⟨gm, 0, none⟩ M.length _ (wcells M) rfl ?d0 ?d1 ?d2 ?d3 ?d4 ?d5 ?_)
      case d0 => exact wcells_len M
      case d1 =>
        intro j u hj
        exact hVr.cells rfl j u hj
      case d2 => exact hone2
      case d3 => unfold maxLen; omega
      case d4 => omega
      case d5 => have := hX5.size; simpa using this
      intro v2 w6 hown2 hgrow2 _
      have hX6 : Below (w3.heap.size + 1) w5 w6 := (Below.refl _ _).grown hgrow2 (by have := hX5.size; simpa using this) (fun k hk => (hown1.lt k hk).1)
      have hX := hX5.trans hX6
      have hZ6 := hZW.after' hX (by simp)
      have hW6 := hW4.after' hX (by simp)
      have hV6 := hV4.after' hX (by simp)
      have F10c := F10.below hX (Nat.lt_succ_self _)
      have hB6 := hB4.trans (hX.mono (by have := hB4.size; simpa using this))
      have hN6 : Words w6 w.heap.size v2 (Lu ++ M) := ⟨by
        rw [List.length_append, show wcells (Lu ++ M) = wcells Lu ++ wcells M by simp [wcells]]
        exact row_mono hown2 (by have := hB4.size; simpa using this), fun q hq => by
        rcases List.mem_append.1 hq with hq | hq
        · exact hW6.bytes q (by simp [hq])
        · exact hV6.bytes q hq⟩
      have hcws : Z.map (fun q => cw q.1) = (Lu ++ M).map (fun q => cw q.1) := by
        have h1 := HCW.out
        rw [← HZ.out, ← HLU.out, ← HMM.out] at h1
        rw [List.map_map, List.map_map, List.map_map] at h1
        rw [List.map_append]; exact h1
      have hzl : Z.length ≤ 65537 := by
        have := congrArg List.length hcws
        rw [List.length_map, List.length_map, List.length_append] at this; omega
      obtain ⟨ya, yc, rfl⟩ := row_slice hN6.row
      have HSW : Hid _ := fun w7 (hb : Below w6.heap.size w6 w7) => same_any false _ _ Z (Lu ++ M) _ _ w7 (hZ6.after hb) (hN6.after hb) hcws (fun h => by cases h) hzl
      rw [List.length_append] at HSW
      clear hX hX5 hX6 hgrow1 hgrow2 hown1 hown2 hZX hWX hVX hVr hV5 hone hone2 hW4 hV4 hZW F10 F10b hW6 hV6 hZ6 hN6 hcws hB4 hB5 hrL hgl
      go_wp2_with (go_at_call 12; refine (HL.out _).mono ?_; rintro e w7 ⟨rfl, hb7⟩; obtain ⟨k0, k1⟩ := (F10c.after hb7).pair; have l10 := (F10c.after hb7).lt)
      refine (HSW.out _ hb7).mono ?_
      rintro e w8 ⟨rfl, hb8⟩
      go_wp2
      go_ret
      exact ⟨rfl, below_of (below_of hB6 hb7) hb8⟩
    · have hkc' : ((kc : Int) != 0) = true := by simp; omega
      have hka := HE4.out hkc
      rw [list_len] at hka
      subst hka
      clear hW4 hV4 hZW HE3 HE4
      simp only [fv]
      go_wp2_with (go_at_call 12; refine (HL.out _).mono ?_; rintro e w4 ⟨rfl, hb4⟩; obtain ⟨c0, c1⟩ := (F8c.after hb4).pair; obtain ⟨k0, k1⟩ := (F10.after hb4).pair; have l10 := (F10.after hb4).lt)
      go_ret
      exact ⟨rfl, below_of hB4 hb4⟩
  · have hfc' : ((fc : Int) != 0) = true := by simp; omega
    simp only [fv]
    obtain ⟨la, lc, rfl⟩ := row_slice hW3.row
    obtain ⟨ma, mc, rfl⟩ := row_slice hV3.row
    clear hW3 hV3
    go_wp2_with (go_at_call 12; refine (HL.out _).mono ?_; rintro e w3 ⟨rfl, hb3⟩; obtain ⟨c0, c1⟩ := (F6c.after hb3).pair; have l7 := (F6c.after hb3).lt)
    go_ret
    exact ⟨rfl, below_of hB3 hb3⟩
end Go.Proofs.Ytbbmjnhbmcbehaa
