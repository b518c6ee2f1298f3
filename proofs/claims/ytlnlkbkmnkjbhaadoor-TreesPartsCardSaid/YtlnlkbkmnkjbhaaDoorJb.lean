/- The law TreesParts, walked. -/
import Derived.Test.YtlnlkbkmnkjbhaaDoorJa
import Derived.Deep.Cut
import Derived.Deep.CutRange
namespace Go.Proofs.YtlnlkbkmnkjbhaaDoor
open Go.RowKit

/-- Behind the two copies. -/
structure R3 (w : World) (a b : Tr) (sa sb : Option Addr) (sc sd f cO cM : Nat) (oa : Option Addr) (oc : Nat) (ma : Option Addr) (mc lo ho lm hm : Nat) (W : World) : Prop where
  tp : Tp w a b sa sb sc sd W
  ko : Kx a f oa oc lo ho W
  km : Kx b f ma mc lm hm W
  zo : Zt cO a oa oc W
  zm : Zt cM b ma mc W
  q1 : w.heap.size + 2 ≤ lo
  q2 : ho ≤ lm
  q3 : w.heap.size + 2 ≤ cO ∧ w.heap.size + 2 ≤ cM
  q4 : cO ≠ cM
  q5 : (cO < lo ∨ ho ≤ cO) ∧ (cO < lm ∨ hm ≤ cO)
  q6 : (cM < lo ∨ ho ≤ cM) ∧ (cM < lm ∨ hm ≤ cM)
  q7 : lo ≤ ho ∧ lm ≤ hm
theorem TAt.fuel {w : World} {B f : Nat} {a : Option Addr} {l : List Tr} (h : TAt w B f a l) : ∀ n, TAt w B (f + n) a l
  | 0 => h
  | n + 1 => (h.fuel n).up
set_option maxRecDepth 100000 in
set_option maxHeartbeats 16000000 in
theorem treesParts_walk (a : Tr) (sa : Option Addr) (sc fa : Nat) (ps : List Int) (pa : Option Addr) (pc : Nat) (b : Tr) (sb : Option Addr) (sd fb : Nat) (w : World) (hka0 : TAt w w.heap.size fa sa a.kids) (hsc : a.kids.length ≤ sc) (hps : IAt w w.heap.size pa ps) (hpl : ps.length ≤ maxLen) (hpc : ps.length ≤ pc) (hkb0 : TAt w w.heap.size fb sb b.kids) (hsd : b.kids.length ≤ sd) (hTab : Tab w.heap.size w) :
    Calls Tryd.prog 6 #[.agg #[.int .i64 a.rule, .int .u8 (a.byte.toNat : Int), .slice sa a.kids.length sc], .slice pa ps.length pc, .agg #[.int .i64 b.rule, .int .u8 (b.byte.toNat : Int), .slice sb b.kids.length sd]] w fun e w' => e = .returned (.bool true) ∧ Below w.heap.size w w' := by
  obtain ⟨f, hf⟩ : ∃ f, fa + fb = f := ⟨_, rfl⟩
  have hka : TAt w w.heap.size f sa a.kids := by rw [← hf]; exact hka0.fuel fb
  have hkb : TAt w w.heap.size f sb b.kids := by rw [← hf, Nat.add_comm]; exact hkb0.fuel fa
  have T0 := Tp.start w a b sa sb sc sd
  obtain ⟨w2, hw2⟩ : ∃ w2, (w.alloc (.cells #[.int .i64 a.rule, .int .u8 (a.byte.toNat : Int), .slice sa a.kids.length sc] 27)).alloc (.cells #[.int .i64 b.rule, .int .u8 (b.byte.toNat : Int), .slice sb b.kids.length sd] 27) = w2 := ⟨_, rfl⟩
  rw [hw2] at T0
  have HT0 : Hid _ := T0
  obtain ⟨e0, e1, e2, g0, g1, g2⟩ := T0.facts
  have HKA : Hid (∀ W, Tp w a b sa sb sc sd W → TAt W W.heap.size f sa a.kids) := fun W h => (hka.keep h.bel).mono h.bel.size
  have HKB : Hid (∀ W, Tp w a b sa sb sc sd W → TAt W W.heap.size f sb b.kids) := fun W h => (hkb.keep h.bel).mono h.bel.size
  have HIP : Hid (∀ W, Tp w a b sa sb sc sd W → IAt W W.heap.size pa ps) := fun W h => (hps.keep h.bel).mono h.bel.size
  have HALV : Hid (∀ W, Tp w a b sa sb sc sd W → Calls Tryd.prog 15 #[] W fun e w' => e = .returned (.bool true) ∧ Below W.heap.size W w') := fun W h => alive_any W (hTab.nx h.bel)
  have HHA : Hid (∀ W, Tp w a b sa sb sc sd W → Calls Tryd.prog 13 #[.agg #[.int .i64 a.rule, .int .u8 (a.byte.toNat : Int), .slice sa a.kids.length sc]] W fun e w' => e = .returned (.bool (decide (1500 < sz a))) ∧ Below W.heap.size W w') := fun W h => heavy_any a sa sc f W (HKA.out W h)
  have HHB : Hid (∀ W, Tp w a b sa sb sc sd W → Calls Tryd.prog 13 #[.agg #[.int .i64 b.rule, .int .u8 (b.byte.toNat : Int), .slice sb b.kids.length sd]] W fun e w' => e = .returned (.bool (decide (1500 < sz b))) ∧ Below W.heap.size W w') := fun W h => heavy_any b sb sd f W (HKB.out W h)
  have HCO : Hid (∀ W, Tp w a b sa sb sc sd W → Calls Tryd.prog 16 #[.agg #[.int .i64 a.rule, .int .u8 (a.byte.toNat : Int), .slice sa a.kids.length sc]] W fun e w' => (∃ va vc, e = .returned (.agg #[.int .i64 a.rule, .int .u8 (a.byte.toNat : Int), .slice va a.kids.length vc]) ∧ Kx a f va vc W.heap.size w'.heap.size w') ∧ Below W.heap.size W w') := fun W h => by
    refine (X.copy_any f a sa sc W (HKA.out W h)).mono ?_
    rintro e w' ⟨⟨va, vc, rfl, hvc, ht⟩, hb⟩
    exact ⟨⟨va, vc, rfl, ⟨ht, hvc, Nat.le_refl _⟩⟩, hb⟩
  have HCM : Hid (∀ W, Tp w a b sa sb sc sd W → Calls Tryd.prog 16 #[.agg #[.int .i64 b.rule, .int .u8 (b.byte.toNat : Int), .slice sb b.kids.length sd]] W fun e w' => (∃ va vc, e = .returned (.agg #[.int .i64 b.rule, .int .u8 (b.byte.toNat : Int), .slice va b.kids.length vc]) ∧ Kx b f va vc W.heap.size w'.heap.size w') ∧ Below W.heap.size W w') := fun W h => by
    refine (X.copy_any f b sb sd W (HKB.out W h)).mono ?_
    rintro e w' ⟨⟨va, vc, rfl, hvc, ht⟩, hb⟩
    exact ⟨⟨va, vc, rfl, ⟨ht, hvc, Nat.le_refl _⟩⟩, hb⟩
  obtain ⟨n, hn⟩ : ∃ n, ps.length = n := ⟨_, rfl⟩
  rw [hn] at hpl hpc ⊢
  unfold maxLen at hpl
  have HNN : Hid _ := hn
  have HSC : Hid _ := And.intro hsc hsd
  clear T0 hka hkb hka0 hkb0 hf hps hsc hsd hn hTab
  by_cases ha : 1500 < sz a
  · rw [decide_eq_true ha] at HHA
    clear ha
    go_enter Tryd.func6, Tryd.ntmps6
    go_wp2_with (go_at_call 13; refine (HHA.out _ HT0.out).mono ?_; rintro e w3 ⟨rfl, hb3⟩; have HT3 : Hid _ := HT0.out.nx hb3; clear hb3)
    refine (HALV.out _ HT3.out).mono ?_
    rintro e w4 ⟨rfl, hb4⟩
    have HT4 : Hid _ := HT3.out.nx hb4
    clear hb4
    go_wp2
    go_ret
    exact ⟨rfl, HT4.out.bel⟩
  rw [decide_eq_false ha] at HHA
  have hszA : sz a ≤ 1500 := by omega
  clear ha
  by_cases hb : 1500 < sz b
  · rw [decide_eq_true hb] at HHB
    clear hb
    go_enter Tryd.func6, Tryd.ntmps6
    go_wp2_with (go_at_call 13; refine (HHA.out _ HT0.out).mono ?_; rintro e w3 ⟨rfl, hb3⟩; have HT3 : Hid _ := HT0.out.nx hb3; clear hb3; obtain ⟨e0, e1, e2, g0, g1, g2⟩ := HT3.out.facts)
    refine (HHB.out _ HT3.out).mono ?_
    rintro e w4 ⟨rfl, hb4⟩
    have HT4 : Hid _ := HT3.out.nx hb4
    clear hb4
    go_wp2_with (go_at_call 15; refine (HALV.out _ HT4.out).mono ?_; rintro e w5 ⟨rfl, hb5⟩; have HT5 : Hid _ := HT4.out.nx hb5; clear hb5)
    go_ret
    exact ⟨rfl, HT5.out.bel⟩
  rw [decide_eq_false hb] at HHB
  have hszB : sz b ≤ 1500 := by omega
  clear hb
  by_cases hl : 1000 < n
  · have hlI : (1000 : Int) < (n : Int) := by omega
    clear hl
    go_enter Tryd.func6, Tryd.ntmps6
    go_wp2_with (go_at_call 13; refine (HHA.out _ HT0.out).mono ?_; rintro e w3 ⟨rfl, hb3⟩; have HT3 : Hid _ := HT0.out.nx hb3; clear hb3; obtain ⟨e0, e1, e2, g0, g1, g2⟩ := HT3.out.facts)
    refine (HHB.out _ HT3.out).mono ?_
    rintro e w4 ⟨rfl, hb4⟩
    have HT4 : Hid _ := HT3.out.nx hb4
    clear hb4
    go_wp2_with (go_at_call 15; refine (HALV.out _ HT4.out).mono ?_; rintro e w5 ⟨rfl, hb5⟩; have HT5 : Hid _ := HT4.out.nx hb5; clear hb5)
    go_ret
    exact ⟨rfl, HT5.out.bel⟩
  have hlI : ¬ (1000 : Int) < (n : Int) := by omega
  clear hl hpl
  go_enter Tryd.func6, Tryd.ntmps6
  go_wp2_with (go_at_call 13; refine (HHA.out _ HT0.out).mono ?_; rintro e w3 ⟨rfl, hb3⟩; have HT3 : Hid _ := HT0.out.nx hb3; clear hb3; obtain ⟨e0, e1, e2, g0, g1, g2⟩ := HT3.out.facts)
  refine (HHB.out _ HT3.out).mono ?_
  rintro e w4 ⟨rfl, hb4⟩
  have HT4 : Hid _ := HT3.out.nx hb4
  clear hb4 e0 e1 e2 g0 g1 g2
  go_wp2_with fail
  go_cut [7, 8] from 9 (fun s7 s8 wc => ∃ cO cM oa oc ma mc lo ho lm hm, s7 = .pointer (some ⟨cO, 0, none⟩) ∧ s8 = .pointer (some ⟨cM, 0, none⟩) ∧ R3 w a b sa sb sc sd f cO cM oa oc ma mc lo ho lm hm wc)
  case first =>
    have TT : Hid (Tp w a b sa sb sc sd w4.drew) := HT4.out.nx ⟨rfl, rfl, rfl, Nat.le_refl _, fun _ _ => rfl⟩
    refine wp_region_held_drew (S := (fun W => W.cell? ⟨w.heap.size, 0, none⟩ = some (.int .i64 a.rule) ∧ W.cell? ⟨w.heap.size, 1, none⟩ = some (.int .u8 (a.byte.toNat : Int)) ∧ W.cell? ⟨w.heap.size, 2, none⟩ = some (.slice sa a.kids.length sc) ∧ W.cell? ⟨w.heap.size + 1, 0, none⟩ = some (.int .i64 b.rule) ∧ W.cell? ⟨w.heap.size + 1, 1, none⟩ = some (.int .u8 (b.byte.toNat : Int)) ∧ W.cell? ⟨w.heap.size + 1, 2, none⟩ = some (.slice sb b.kids.length sd))) (by kernel_rfl) TT.out.facts (fun hHeld => ?_)
    obtain ⟨x0, hx0⟩ : ∃ x0, w4.drew = x0 := ⟨_, rfl⟩
    rw [hx0] at TT hHeld
    rw [hx0]
    clear hx0
    have LT : Hid _ := TT.out.lt
    refine wpAnyH_take (i := 0) (v := ?v1) rfl (by kernel_rfl) (by kernel_rfl) (by kernel_rfl) (fun _ _ _ h => h) (Or.inl ⟨by rfl, ?y1⟩) (by assumption) ?_
    case y1 => (intro w hSw; (try dsimp only at hSw); go_simp <;> with_reducible rfl)
    try simp only [Act.put, List.getElem_toArray, List.getElem_cons_zero, List.setIfInBounds_toArray, List.set_cons_zero, List.set_cons_succ]
    refine wpAnyH_take (i := 2) (v := ?v2) rfl (by kernel_rfl) (by kernel_rfl) (by kernel_rfl) (fun _ _ _ h => h) (Or.inl ⟨by rfl, ?y2⟩) (by assumption) ?_
    case y2 => (intro w hSw; (try dsimp only at hSw); go_simp <;> with_reducible rfl)
    try simp only [Act.put, List.getElem_toArray, List.getElem_cons_zero, List.getElem_cons_succ, List.setIfInBounds_toArray, List.set_cons_zero, List.set_cons_succ]
    refine wpAnyH_ready (rs := [1, 4, 5]) (by kernel_rfl) (by simp) ?_
    refine (AllReadyH.cons rfl (fun K hK => ?_) (AllReadyH.cons rfl (fun K hK => ?_) (AllReadyH.cons rfl (fun K hK => ?_) AllReadyH.nil)))
    · go_simp
      refine (HCO.out _ TT.out).mono ?_
      rintro e x1 ⟨⟨oa, oc, rfl, hKO⟩, hb⟩
      have NTT : Hid (Tp w a b sa sb sc sd x1) := TT.out.nx hb
      clear TT
      have TT : Hid (Tp w a b sa sb sc sd x1) := NTT.out
      clear NTT
      obtain ⟨lo, hlo⟩ : ∃ lo, x0.heap.size = lo := ⟨_, rfl⟩
      obtain ⟨ho, hho⟩ : ∃ ho, x1.heap.size = ho := ⟨_, rfl⟩
      have KO : Hid (Kx a f oa oc lo ho x1) := by show Kx _ _ _ _ _ _ _; rw [← hlo, ← hho]; exact hKO
      have Lo : Hid _ := hlo
      have Ho : Hid _ := hho
      have Mo : Hid _ := hb.size
      clear hb hKO hlo hho
      go_wp2_with fail
      refine hK.out _ _ TT.out.facts (fun hHeld => ?_)
      clear hK K
      try simp only [Act.put, List.getElem_toArray, List.getElem_cons_zero, List.getElem_cons_succ, List.setIfInBounds_toArray, List.set_cons_zero, List.set_cons_succ]
      refine wpAnyH_ready (rs := [3, 4, 5]) (by kernel_rfl) (by simp) ?_
      refine (AllReadyH.cons rfl (fun K hK => ?_) (AllReadyH.cons rfl (fun K hK => ?_) (AllReadyH.cons rfl (fun K hK => ?_) AllReadyH.nil)))
      · go_simp
        refine (HCM.out _ TT.out).mono ?_
        rintro e x2 ⟨⟨ma, mc, rfl, hKM⟩, hb⟩
        have NTT : Hid (Tp w a b sa sb sc sd x2) := TT.out.nx hb
        have NKO : Hid (Kx a f oa oc lo ho x2) := KO.out.nx hb
        clear TT
        have TT : Hid (Tp w a b sa sb sc sd x2) := NTT.out
        clear NTT
        clear KO
        have KO : Hid (Kx a f oa oc lo ho x2) := NKO.out
        clear NKO
        obtain ⟨lm, hlm⟩ : ∃ lm, x1.heap.size = lm := ⟨_, rfl⟩
        obtain ⟨hm, hhm⟩ : ∃ hm, x2.heap.size = hm := ⟨_, rfl⟩
        have KM : Hid (Kx b f ma mc lm hm x2) := by show Kx _ _ _ _ _ _ _; rw [← hlm, ← hhm]; exact hKM
        have Lm : Hid _ := hlm
        have Hm : Hid _ := hhm
        have Mm : Hid _ := hb.size
        clear hb hKM hlm hhm
        go_wp2_with fail
        refine hK.out _ _ TT.out.facts (fun hHeld => ?_)
        clear hK K
        try simp only [Act.put, List.getElem_toArray, List.getElem_cons_zero, List.getElem_cons_succ, List.setIfInBounds_toArray, List.set_cons_zero, List.set_cons_succ]
        refine wpAnyH_ready (rs := [4, 5]) (by kernel_rfl) (by simp) ?_
        refine (AllReadyH.cons rfl (fun K hK => ?_) (AllReadyH.cons rfl (fun K hK => ?_) AllReadyH.nil))
        · go_simp
          obtain ⟨x3, hx3⟩ : ∃ x3, x2.alloc (.cells #[.int .i64 0, .int .u8 0, .slice none 0 0] 27) = x3 := ⟨_, rfl⟩
          have hb : Below x2.heap.size x2 x3 := by rw [← hx3]; exact (Below.refl _ _).alloc (Nat.le_refl _) _
          have hz : Zb x2.heap.size (.int .i64 0) (.int .u8 0) (.slice none 0 0) x3 := by rw [← hx3]; exact Zb.new _ _ _ _
          have hs : x3.heap.size = x2.heap.size + 1 := by rw [← hx3]; simp
          obtain ⟨cO, hcO⟩ : ∃ cO, x2.heap.size = cO := ⟨_, rfl⟩
          rw [hx3, hcO]
          have NTT : Hid (Tp w a b sa sb sc sd x3) := TT.out.nx hb
          have NKO : Hid (Kx a f oa oc lo ho x3) := KO.out.nx hb
          have NKM : Hid (Kx b f ma mc lm hm x3) := KM.out.nx hb
          clear TT
          have TT : Hid (Tp w a b sa sb sc sd x3) := NTT.out
          clear NTT
          clear KO
          have KO : Hid (Kx a f oa oc lo ho x3) := NKO.out
          clear NKO
          clear KM
          have KM : Hid (Kx b f ma mc lm hm x3) := NKM.out
          clear NKM
          have ZO : Hid (Zb cO (.int .i64 0) (.int .u8 0) (.slice none 0 0) x3) := by show Zb _ _ _ _ _; rw [← hcO]; exact hz
          have EcO : Hid _ := hcO
          have FcO : Hid _ := hs
          clear hb hz hs hcO hx3
          refine hK.out _ _ TT.out.facts (fun hHeld => ?_)
          clear hK K
          try simp only [Act.put, List.getElem_toArray, List.getElem_cons_zero, List.getElem_cons_succ, List.setIfInBounds_toArray, List.set_cons_zero, List.set_cons_succ]
          refine wpAnyH_ready (rs := [5]) (by kernel_rfl) (by simp) ?_
          refine (AllReadyH.cons rfl (fun K hK => ?_) AllReadyH.nil)
          · go_simp
            obtain ⟨x4, hx4⟩ : ∃ x4, x3.alloc (.cells #[.int .i64 0, .int .u8 0, .slice none 0 0] 27) = x4 := ⟨_, rfl⟩
            have hb : Below x3.heap.size x3 x4 := by rw [← hx4]; exact (Below.refl _ _).alloc (Nat.le_refl _) _
            have hz : Zb x3.heap.size (.int .i64 0) (.int .u8 0) (.slice none 0 0) x4 := by rw [← hx4]; exact Zb.new _ _ _ _
            have hs : x4.heap.size = x3.heap.size + 1 := by rw [← hx4]; simp
            obtain ⟨cM, hcM⟩ : ∃ cM, x3.heap.size = cM := ⟨_, rfl⟩
            rw [hx4, hcM]
            have NTT : Hid (Tp w a b sa sb sc sd x4) := TT.out.nx hb
            have NKO : Hid (Kx a f oa oc lo ho x4) := KO.out.nx hb
            have NKM : Hid (Kx b f ma mc lm hm x4) := KM.out.nx hb
            have NZO : Hid (Zb cO (.int .i64 0) (.int .u8 0) (.slice none 0 0) x4) := ZO.out.nx hb
            clear TT
            have TT : Hid (Tp w a b sa sb sc sd x4) := NTT.out
            clear NTT
            clear KO
            have KO : Hid (Kx a f oa oc lo ho x4) := NKO.out
            clear NKO
            clear KM
            have KM : Hid (Kx b f ma mc lm hm x4) := NKM.out
            clear NKM
            clear ZO
            have ZO : Hid (Zb cO (.int .i64 0) (.int .u8 0) (.slice none 0 0) x4) := NZO.out
            clear NZO
            have ZM : Hid (Zb cM (.int .i64 0) (.int .u8 0) (.slice none 0 0) x4) := by show Zb _ _ _ _ _; rw [← hcM]; exact hz
            have EcM : Hid _ := hcM
            have FcM : Hid _ := hs
            clear hb hz hs hcM hx4
            refine hK.out _ _ TT.out.facts (fun hHeld => ?_)
            clear hK K
            try simp only [Act.put, List.getElem_toArray, List.getElem_cons_zero, List.getElem_cons_succ, List.setIfInBounds_toArray, List.set_cons_zero, List.set_cons_succ]
            refine wpAnyH_ready (rs := [6]) (by kernel_rfl) (by simp) ?_
            refine (AllReadyH.cons rfl (fun K hK => ?_) AllReadyH.nil)
            have z0 := ZO.out.z0
            have z1 := ZO.out.z1
            have z2 := ZO.out.z2
            have f0 := ZO.out.fz 0
            have f1 := ZO.out.fz 1
            have f2 := ZO.out.fz 2
            go_simp
            have hsv := Sv.set (X := x4) cO (.int .i64 a.rule) (.int .u8 (a.byte.toNat : Int)) (.slice oa a.kids.length oc)
            have hzz := ZO.out.set (.int .i64 a.rule) (.int .u8 (a.byte.toNat : Int)) (.slice oa a.kids.length oc)
            obtain ⟨x5, hx5⟩ : ∃ x5, ((x4.setCell ⟨cO, 0, none⟩ (.int .i64 a.rule)).setCell ⟨cO, 1, none⟩ (.int .u8 (a.byte.toNat : Int))).setCell ⟨cO, 2, none⟩ (.slice oa a.kids.length oc) = x5 := ⟨_, rfl⟩
            rw [hx5] at hsv hzz
            rw [hx5]
            have NTT : Hid (Tp w a b sa sb sc sd x5) := TT.out.sv hsv (by have := LT.out; have := Lo.out; have := Ho.out; have := Mo.out; have := Lm.out; have := Hm.out; have := Mm.out; have := EcO.out; have := FcO.out; have := EcM.out; have := FcM.out; omega)
            have NKO : Hid (Kx a f oa oc lo ho x5) := KO.out.sv hsv (by have := LT.out; have := Lo.out; have := Ho.out; have := Mo.out; have := Lm.out; have := Hm.out; have := Mm.out; have := EcO.out; have := FcO.out; have := EcM.out; have := FcM.out; omega)
            have NKM : Hid (Kx b f ma mc lm hm x5) := KM.out.sv hsv (by have := LT.out; have := Lo.out; have := Ho.out; have := Mo.out; have := Lm.out; have := Hm.out; have := Mm.out; have := EcO.out; have := FcO.out; have := EcM.out; have := FcM.out; omega)
            have NZM : Hid (Zb cM (.int .i64 0) (.int .u8 0) (.slice none 0 0) x5) := ZM.out.sv hsv (by have := LT.out; have := Lo.out; have := Ho.out; have := Mo.out; have := Lm.out; have := Hm.out; have := Mm.out; have := EcO.out; have := FcO.out; have := EcM.out; have := FcM.out; omega)
            clear TT
            have TT : Hid (Tp w a b sa sb sc sd x5) := NTT.out
            clear NTT
            clear KO
            have KO : Hid (Kx a f oa oc lo ho x5) := NKO.out
            clear NKO
            clear KM
            have KM : Hid (Kx b f ma mc lm hm x5) := NKM.out
            clear NKM
            clear ZM
            have ZM : Hid (Zb cM (.int .i64 0) (.int .u8 0) (.slice none 0 0) x5) := NZM.out
            clear NZM
            clear ZO
            have ZO : Hid (Zb cO (.int .i64 a.rule) (.int .u8 (a.byte.toNat : Int)) (.slice oa a.kids.length oc) x5) := hzz
            clear hsv hzz hx5 z0 z1 z2 f0 f1 f2
            refine hK.out _ _ TT.out.facts (fun hHeld => ?_)
            clear hK K
            try simp only [Act.put, List.getElem_toArray, List.getElem_cons_zero, List.getElem_cons_succ, List.setIfInBounds_toArray, List.set_cons_zero, List.set_cons_succ]
            refine wpAnyH_ready (rs := [7]) (by kernel_rfl) (by simp) ?_
            refine (AllReadyH.cons rfl (fun K hK => ?_) AllReadyH.nil)
            have z0 := ZM.out.z0
            have z1 := ZM.out.z1
            have z2 := ZM.out.z2
            have f0 := ZM.out.fz 0
            have f1 := ZM.out.fz 1
            have f2 := ZM.out.fz 2
            go_simp
            have hsv := Sv.set (X := x5) cM (.int .i64 b.rule) (.int .u8 (b.byte.toNat : Int)) (.slice ma b.kids.length mc)
            have hzz := ZM.out.set (.int .i64 b.rule) (.int .u8 (b.byte.toNat : Int)) (.slice ma b.kids.length mc)
            obtain ⟨x6, hx6⟩ : ∃ x6, ((x5.setCell ⟨cM, 0, none⟩ (.int .i64 b.rule)).setCell ⟨cM, 1, none⟩ (.int .u8 (b.byte.toNat : Int))).setCell ⟨cM, 2, none⟩ (.slice ma b.kids.length mc) = x6 := ⟨_, rfl⟩
            rw [hx6] at hsv hzz
            rw [hx6]
            have NTT : Hid (Tp w a b sa sb sc sd x6) := TT.out.sv hsv (by have := LT.out; have := Lo.out; have := Ho.out; have := Mo.out; have := Lm.out; have := Hm.out; have := Mm.out; have := EcO.out; have := FcO.out; have := EcM.out; have := FcM.out; omega)
            have NKO : Hid (Kx a f oa oc lo ho x6) := KO.out.sv hsv (by have := LT.out; have := Lo.out; have := Ho.out; have := Mo.out; have := Lm.out; have := Hm.out; have := Mm.out; have := EcO.out; have := FcO.out; have := EcM.out; have := FcM.out; omega)
            have NKM : Hid (Kx b f ma mc lm hm x6) := KM.out.sv hsv (by have := LT.out; have := Lo.out; have := Ho.out; have := Mo.out; have := Lm.out; have := Hm.out; have := Mm.out; have := EcO.out; have := FcO.out; have := EcM.out; have := FcM.out; omega)
            have NZO : Hid (Zb cO (.int .i64 a.rule) (.int .u8 (a.byte.toNat : Int)) (.slice oa a.kids.length oc) x6) := ZO.out.sv hsv (by have := LT.out; have := Lo.out; have := Ho.out; have := Mo.out; have := Lm.out; have := Hm.out; have := Mm.out; have := EcO.out; have := FcO.out; have := EcM.out; have := FcM.out; omega)
            clear TT
            have TT : Hid (Tp w a b sa sb sc sd x6) := NTT.out
            clear NTT
            clear KO
            have KO : Hid (Kx a f oa oc lo ho x6) := NKO.out
            clear NKO
            clear KM
            have KM : Hid (Kx b f ma mc lm hm x6) := NKM.out
            clear NKM
            clear ZO
            have ZO : Hid (Zb cO (.int .i64 a.rule) (.int .u8 (a.byte.toNat : Int)) (.slice oa a.kids.length oc) x6) := NZO.out
            clear NZO
            clear ZM
            have ZM : Hid (Zb cM (.int .i64 b.rule) (.int .u8 (b.byte.toNat : Int)) (.slice ma b.kids.length mc) x6) := hzz
            clear hsv hzz hx6 z0 z1 z2 f0 f1 f2
            refine hK.out _ _ TT.out.facts (fun hHeld => ?_)
            clear hK K
            try simp only [Act.put, List.getElem_toArray, List.getElem_cons_zero, List.getElem_cons_succ, List.setIfInBounds_toArray, List.set_cons_zero, List.set_cons_succ]
            refine wpAnyH_done (by kernel_rfl) ?_ _
            clear hHeld
            go_wp2
            go_meet
            exact ⟨cO, cM, oa, oc, ma, mc, lo, ho, lm, hm, rfl, rfl, ⟨TT.out, KO.out, KM.out, ZO.out, ZM.out, (by have := LT.out; have := Lo.out; have := Ho.out; have := Mo.out; have := Lm.out; have := Hm.out; have := Mm.out; have := EcO.out; have := FcO.out; have := EcM.out; have := FcM.out; omega), (by have := LT.out; have := Lo.out; have := Ho.out; have := Mo.out; have := Lm.out; have := Hm.out; have := Mm.out; have := EcO.out; have := FcO.out; have := EcM.out; have := FcM.out; omega), (by have := LT.out; have := Lo.out; have := Ho.out; have := Mo.out; have := Lm.out; have := Hm.out; have := Mm.out; have := EcO.out; have := FcO.out; have := EcM.out; have := FcM.out; omega), (by have := LT.out; have := Lo.out; have := Ho.out; have := Mo.out; have := Lm.out; have := Hm.out; have := Mm.out; have := EcO.out; have := FcO.out; have := EcM.out; have := FcM.out; omega), (by have := LT.out; have := Lo.out; have := Ho.out; have := Mo.out; have := Lm.out; have := Hm.out; have := Mm.out; have := EcO.out; have := FcO.out; have := EcM.out; have := FcM.out; omega), (by have := LT.out; have := Lo.out; have := Ho.out; have := Mo.out; have := Lm.out; have := Hm.out; have := Mm.out; have := EcO.out; have := FcO.out; have := EcM.out; have := FcM.out; omega), (by have := LT.out; have := Lo.out; have := Ho.out; have := Mo.out; have := Lm.out; have := Hm.out; have := Mm.out; have := EcO.out; have := FcO.out; have := EcM.out; have := FcM.out; omega)⟩⟩
        · go_simp
          obtain ⟨x3, hx3⟩ : ∃ x3, x2.alloc (.cells #[.int .i64 0, .int .u8 0, .slice none 0 0] 27) = x3 := ⟨_, rfl⟩
          have hb : Below x2.heap.size x2 x3 := by rw [← hx3]; exact (Below.refl _ _).alloc (Nat.le_refl _) _
          have hz : Zb x2.heap.size (.int .i64 0) (.int .u8 0) (.slice none 0 0) x3 := by rw [← hx3]; exact Zb.new _ _ _ _
          have hs : x3.heap.size = x2.heap.size + 1 := by rw [← hx3]; simp
          obtain ⟨cM, hcM⟩ : ∃ cM, x2.heap.size = cM := ⟨_, rfl⟩
          rw [hx3, hcM]
          have NTT : Hid (Tp w a b sa sb sc sd x3) := TT.out.nx hb
          have NKO : Hid (Kx a f oa oc lo ho x3) := KO.out.nx hb
          have NKM : Hid (Kx b f ma mc lm hm x3) := KM.out.nx hb
          clear TT
          have TT : Hid (Tp w a b sa sb sc sd x3) := NTT.out
          clear NTT
          clear KO
          have KO : Hid (Kx a f oa oc lo ho x3) := NKO.out
          clear NKO
          clear KM
          have KM : Hid (Kx b f ma mc lm hm x3) := NKM.out
          clear NKM
          have ZM : Hid (Zb cM (.int .i64 0) (.int .u8 0) (.slice none 0 0) x3) := by show Zb _ _ _ _ _; rw [← hcM]; exact hz
          have EcM : Hid _ := hcM
          have FcM : Hid _ := hs
          clear hb hz hs hcM hx3
          refine hK.out _ _ TT.out.facts (fun hHeld => ?_)
          clear hK K
          try simp only [Act.put, List.getElem_toArray, List.getElem_cons_zero, List.getElem_cons_succ, List.setIfInBounds_toArray, List.set_cons_zero, List.set_cons_succ]
          refine wpAnyH_ready (rs := [4]) (by kernel_rfl) (by simp) ?_
          refine (AllReadyH.cons rfl (fun K hK => ?_) AllReadyH.nil)
          · go_simp
            obtain ⟨x4, hx4⟩ : ∃ x4, x3.alloc (.cells #[.int .i64 0, .int .u8 0, .slice none 0 0] 27) = x4 := ⟨_, rfl⟩
            have hb : Below x3.heap.size x3 x4 := by rw [← hx4]; exact (Below.refl _ _).alloc (Nat.le_refl _) _
            have hz : Zb x3.heap.size (.int .i64 0) (.int .u8 0) (.slice none 0 0) x4 := by rw [← hx4]; exact Zb.new _ _ _ _
            have hs : x4.heap.size = x3.heap.size + 1 := by rw [← hx4]; simp
            obtain ⟨cO, hcO⟩ : ∃ cO, x3.heap.size = cO := ⟨_, rfl⟩
            rw [hx4, hcO]
            have NTT : Hid (Tp w a b sa sb sc sd x4) := TT.out.nx hb
            have NKO : Hid (Kx a f oa oc lo ho x4) := KO.out.nx hb
            have NKM : Hid (Kx b f ma mc lm hm x4) := KM.out.nx hb
            have NZM : Hid (Zb cM (.int .i64 0) (.int .u8 0) (.slice none 0 0) x4) := ZM.out.nx hb
            clear TT
            have TT : Hid (Tp w a b sa sb sc sd x4) := NTT.out
            clear NTT
            clear KO
            have KO : Hid (Kx a f oa oc lo ho x4) := NKO.out
            clear NKO
            clear KM
            have KM : Hid (Kx b f ma mc lm hm x4) := NKM.out
            clear NKM
            clear ZM
            have ZM : Hid (Zb cM (.int .i64 0) (.int .u8 0) (.slice none 0 0) x4) := NZM.out
            clear NZM
            have ZO : Hid (Zb cO (.int .i64 0) (.int .u8 0) (.slice none 0 0) x4) := by show Zb _ _ _ _ _; rw [← hcO]; exact hz
            have EcO : Hid _ := hcO
            have FcO : Hid _ := hs
            clear hb hz hs hcO hx4
            refine hK.out _ _ TT.out.facts (fun hHeld => ?_)
            clear hK K
            try simp only [Act.put, List.getElem_toArray, List.getElem_cons_zero, List.getElem_cons_succ, List.setIfInBounds_toArray, List.set_cons_zero, List.set_cons_succ]
            refine wpAnyH_ready (rs := [6]) (by kernel_rfl) (by simp) ?_
            refine (AllReadyH.cons rfl (fun K hK => ?_) AllReadyH.nil)
            have z0 := ZO.out.z0
            have z1 := ZO.out.z1
            have z2 := ZO.out.z2
            have f0 := ZO.out.fz 0
            have f1 := ZO.out.fz 1
            have f2 := ZO.out.fz 2
            go_simp
            have hsv := Sv.set (X := x4) cO (.int .i64 a.rule) (.int .u8 (a.byte.toNat : Int)) (.slice oa a.kids.length oc)
            have hzz := ZO.out.set (.int .i64 a.rule) (.int .u8 (a.byte.toNat : Int)) (.slice oa a.kids.length oc)
            obtain ⟨x5, hx5⟩ : ∃ x5, ((x4.setCell ⟨cO, 0, none⟩ (.int .i64 a.rule)).setCell ⟨cO, 1, none⟩ (.int .u8 (a.byte.toNat : Int))).setCell ⟨cO, 2, none⟩ (.slice oa a.kids.length oc) = x5 := ⟨_, rfl⟩
            rw [hx5] at hsv hzz
            rw [hx5]
            have NTT : Hid (Tp w a b sa sb sc sd x5) := TT.out.sv hsv (by have := LT.out; have := Lo.out; have := Ho.out; have := Mo.out; have := Lm.out; have := Hm.out; have := Mm.out; have := EcM.out; have := FcM.out; have := EcO.out; have := FcO.out; omega)
            have NKO : Hid (Kx a f oa oc lo ho x5) := KO.out.sv hsv (by have := LT.out; have := Lo.out; have := Ho.out; have := Mo.out; have := Lm.out; have := Hm.out; have := Mm.out; have := EcM.out; have := FcM.out; have := EcO.out; have := FcO.out; omega)
            have NKM : Hid (Kx b f ma mc lm hm x5) := KM.out.sv hsv (by have := LT.out; have := Lo.out; have := Ho.out; have := Mo.out; have := Lm.out; have := Hm.out; have := Mm.out; have := EcM.out; have := FcM.out; have := EcO.out; have := FcO.out; omega)
            have NZM : Hid (Zb cM (.int .i64 0) (.int .u8 0) (.slice none 0 0) x5) := ZM.out.sv hsv (by have := LT.out; have := Lo.out; have := Ho.out; have := Mo.out; have := Lm.out; have := Hm.out; have := Mm.out; have := EcM.out; have := FcM.out; have := EcO.out; have := FcO.out; omega)
            clear TT
            have TT : Hid (Tp w a b sa sb sc sd x5) := NTT.out
            clear NTT
            clear KO
            have KO : Hid (Kx a f oa oc lo ho x5) := NKO.out
            clear NKO
            clear KM
            have KM : Hid (Kx b f ma mc lm hm x5) := NKM.out
            clear NKM
            clear ZM
            have ZM : Hid (Zb cM (.int .i64 0) (.int .u8 0) (.slice none 0 0) x5) := NZM.out
            clear NZM
            clear ZO
            have ZO : Hid (Zb cO (.int .i64 a.rule) (.int .u8 (a.byte.toNat : Int)) (.slice oa a.kids.length oc) x5) := hzz
            clear hsv hzz hx5 z0 z1 z2 f0 f1 f2
            refine hK.out _ _ TT.out.facts (fun hHeld => ?_)
            clear hK K
            try simp only [Act.put, List.getElem_toArray, List.getElem_cons_zero, List.getElem_cons_succ, List.setIfInBounds_toArray, List.set_cons_zero, List.set_cons_succ]
            refine wpAnyH_ready (rs := [7]) (by kernel_rfl) (by simp) ?_
            refine (AllReadyH.cons rfl (fun K hK => ?_) AllReadyH.nil)
            have z0 := ZM.out.z0
            have z1 := ZM.out.z1
            have z2 := ZM.out.z2
            have f0 := ZM.out.fz 0
            have f1 := ZM.out.fz 1
            have f2 := ZM.out.fz 2
            go_simp
            have hsv := Sv.set (X := x5) cM (.int .i64 b.rule) (.int .u8 (b.byte.toNat : Int)) (.slice ma b.kids.length mc)
            have hzz := ZM.out.set (.int .i64 b.rule) (.int .u8 (b.byte.toNat : Int)) (.slice ma b.kids.length mc)
            obtain ⟨x6, hx6⟩ : ∃ x6, ((x5.setCell ⟨cM, 0, none⟩ (.int .i64 b.rule)).setCell ⟨cM, 1, none⟩ (.int .u8 (b.byte.toNat : Int))).setCell ⟨cM, 2, none⟩ (.slice ma b.kids.length mc) = x6 := ⟨_, rfl⟩
            rw [hx6] at hsv hzz
            rw [hx6]
            have NTT : Hid (Tp w a b sa sb sc sd x6) := TT.out.sv hsv (by have := LT.out; have := Lo.out; have := Ho.out; have := Mo.out; have := Lm.out; have := Hm.out; have := Mm.out; have := EcM.out; have := FcM.out; have := EcO.out; have := FcO.out; omega)
            have NKO : Hid (Kx a f oa oc lo ho x6) := KO.out.sv hsv (by have := LT.out; have := Lo.out; have := Ho.out; have := Mo.out; have := Lm.out; have := Hm.out; have := Mm.out; have := EcM.out; have := FcM.out; have := EcO.out; have := FcO.out; omega)
            have NKM : Hid (Kx b f ma mc lm hm x6) := KM.out.sv hsv (by have := LT.out; have := Lo.out; have := Ho.out; have := Mo.out; have := Lm.out; have := Hm.out; have := Mm.out; have := EcM.out; have := FcM.out; have := EcO.out; have := FcO.out; omega)
            have NZO : Hid (Zb cO (.int .i64 a.rule) (.int .u8 (a.byte.toNat : Int)) (.slice oa a.kids.length oc) x6) := ZO.out.sv hsv (by have := LT.out; have := Lo.out; have := Ho.out; have := Mo.out; have := Lm.out; have := Hm.out; have := Mm.out; have := EcM.out; have := FcM.out; have := EcO.out; have := FcO.out; omega)
            clear TT
            have TT : Hid (Tp w a b sa sb sc sd x6) := NTT.out
            clear NTT
            clear KO
            have KO : Hid (Kx a f oa oc lo ho x6) := NKO.out
            clear NKO
            clear KM
            have KM : Hid (Kx b f ma mc lm hm x6) := NKM.out
            clear NKM
            clear ZO
            have ZO : Hid (Zb cO (.int .i64 a.rule) (.int .u8 (a.byte.toNat : Int)) (.slice oa a.kids.length oc) x6) := NZO.out
            clear NZO
            clear ZM
            have ZM : Hid (Zb cM (.int .i64 b.rule) (.int .u8 (b.byte.toNat : Int)) (.slice ma b.kids.length mc) x6) := hzz
            clear hsv hzz hx6 z0 z1 z2 f0 f1 f2
            refine hK.out _ _ TT.out.facts (fun hHeld => ?_)
            clear hK K
            try simp only [Act.put, List.getElem_toArray, List.getElem_cons_zero, List.getElem_cons_succ, List.setIfInBounds_toArray, List.set_cons_zero, List.set_cons_succ]
            refine wpAnyH_done (by kernel_rfl) ?_ _
            clear hHeld
            go_wp2
            go_meet
            exact ⟨cO, cM, oa, oc, ma, mc, lo, ho, lm, hm, rfl, rfl, ⟨TT.out, KO.out, KM.out, ZO.out, ZM.out, (by have := LT.out; have := Lo.out; have := Ho.out; have := Mo.out; have := Lm.out; have := Hm.out; have := Mm.out; have := EcM.out; have := FcM.out; have := EcO.out; have := FcO.out; omega), (by have := LT.out; have := Lo.out; have := Ho.out; have := Mo.out; have := Lm.out; have := Hm.out; have := Mm.out; have := EcM.out; have := FcM.out; have := EcO.out; have := FcO.out; omega), (by have := LT.out; have := Lo.out; have := Ho.out; have := Mo.out; have := Lm.out; have := Hm.out; have := Mm.out; have := EcM.out; have := FcM.out; have := EcO.out; have := FcO.out; omega), (by have := LT.out; have := Lo.out; have := Ho.out; have := Mo.out; have := Lm.out; have := Hm.out; have := Mm.out; have := EcM.out; have := FcM.out; have := EcO.out; have := FcO.out; omega), (by have := LT.out; have := Lo.out; have := Ho.out; have := Mo.out; have := Lm.out; have := Hm.out; have := Mm.out; have := EcM.out; have := FcM.out; have := EcO.out; have := FcO.out; omega), (by have := LT.out; have := Lo.out; have := Ho.out; have := Mo.out; have := Lm.out; have := Hm.out; have := Mm.out; have := EcM.out; have := FcM.out; have := EcO.out; have := FcO.out; omega), (by have := LT.out; have := Lo.out; have := Ho.out; have := Mo.out; have := Lm.out; have := Hm.out; have := Mm.out; have := EcM.out; have := FcM.out; have := EcO.out; have := FcO.out; omega)⟩⟩
      · go_simp
        obtain ⟨x2, hx2⟩ : ∃ x2, x1.alloc (.cells #[.int .i64 0, .int .u8 0, .slice none 0 0] 27) = x2 := ⟨_, rfl⟩
        have hb : Below x1.heap.size x1 x2 := by rw [← hx2]; exact (Below.refl _ _).alloc (Nat.le_refl _) _
        have hz : Zb x1.heap.size (.int .i64 0) (.int .u8 0) (.slice none 0 0) x2 := by rw [← hx2]; exact Zb.new _ _ _ _
        have hs : x2.heap.size = x1.heap.size + 1 := by rw [← hx2]; simp
        obtain ⟨cO, hcO⟩ : ∃ cO, x1.heap.size = cO := ⟨_, rfl⟩
        rw [hx2, hcO]
        have NTT : Hid (Tp w a b sa sb sc sd x2) := TT.out.nx hb
        have NKO : Hid (Kx a f oa oc lo ho x2) := KO.out.nx hb
        clear TT
        have TT : Hid (Tp w a b sa sb sc sd x2) := NTT.out
        clear NTT
        clear KO
        have KO : Hid (Kx a f oa oc lo ho x2) := NKO.out
        clear NKO
        have ZO : Hid (Zb cO (.int .i64 0) (.int .u8 0) (.slice none 0 0) x2) := by show Zb _ _ _ _ _; rw [← hcO]; exact hz
        have EcO : Hid _ := hcO
        have FcO : Hid _ := hs
        clear hb hz hs hcO hx2
        refine hK.out _ _ TT.out.facts (fun hHeld => ?_)
        clear hK K
        try simp only [Act.put, List.getElem_toArray, List.getElem_cons_zero, List.getElem_cons_succ, List.setIfInBounds_toArray, List.set_cons_zero, List.set_cons_succ]
        refine wpAnyH_ready (rs := [3, 5]) (by kernel_rfl) (by simp) ?_
        refine (AllReadyH.cons rfl (fun K hK => ?_) (AllReadyH.cons rfl (fun K hK => ?_) AllReadyH.nil))
        · go_simp
          refine (HCM.out _ TT.out).mono ?_
          rintro e x3 ⟨⟨ma, mc, rfl, hKM⟩, hb⟩
          have NTT : Hid (Tp w a b sa sb sc sd x3) := TT.out.nx hb
          have NKO : Hid (Kx a f oa oc lo ho x3) := KO.out.nx hb
          have NZO : Hid (Zb cO (.int .i64 0) (.int .u8 0) (.slice none 0 0) x3) := ZO.out.nx hb
          clear TT
          have TT : Hid (Tp w a b sa sb sc sd x3) := NTT.out
          clear NTT
          clear KO
          have KO : Hid (Kx a f oa oc lo ho x3) := NKO.out
          clear NKO
          clear ZO
          have ZO : Hid (Zb cO (.int .i64 0) (.int .u8 0) (.slice none 0 0) x3) := NZO.out
          clear NZO
          obtain ⟨lm, hlm⟩ : ∃ lm, x2.heap.size = lm := ⟨_, rfl⟩
          obtain ⟨hm, hhm⟩ : ∃ hm, x3.heap.size = hm := ⟨_, rfl⟩
          have KM : Hid (Kx b f ma mc lm hm x3) := by show Kx _ _ _ _ _ _ _; rw [← hlm, ← hhm]; exact hKM
          have Lm : Hid _ := hlm
          have Hm : Hid _ := hhm
          have Mm : Hid _ := hb.size
          clear hb hKM hlm hhm
          go_wp2_with fail
          refine hK.out _ _ TT.out.facts (fun hHeld => ?_)
          clear hK K
          try simp only [Act.put, List.getElem_toArray, List.getElem_cons_zero, List.getElem_cons_succ, List.setIfInBounds_toArray, List.set_cons_zero, List.set_cons_succ]
          refine wpAnyH_ready (rs := [5]) (by kernel_rfl) (by simp) ?_
          refine (AllReadyH.cons rfl (fun K hK => ?_) AllReadyH.nil)
          · go_simp
            obtain ⟨x4, hx4⟩ : ∃ x4, x3.alloc (.cells #[.int .i64 0, .int .u8 0, .slice none 0 0] 27) = x4 := ⟨_, rfl⟩
            have hb : Below x3.heap.size x3 x4 := by rw [← hx4]; exact (Below.refl _ _).alloc (Nat.le_refl _) _
            have hz : Zb x3.heap.size (.int .i64 0) (.int .u8 0) (.slice none 0 0) x4 := by rw [← hx4]; exact Zb.new _ _ _ _
            have hs : x4.heap.size = x3.heap.size + 1 := by rw [← hx4]; simp
            obtain ⟨cM, hcM⟩ : ∃ cM, x3.heap.size = cM := ⟨_, rfl⟩
            rw [hx4, hcM]
            have NTT : Hid (Tp w a b sa sb sc sd x4) := TT.out.nx hb
            have NKO : Hid (Kx a f oa oc lo ho x4) := KO.out.nx hb
            have NZO : Hid (Zb cO (.int .i64 0) (.int .u8 0) (.slice none 0 0) x4) := ZO.out.nx hb
            have NKM : Hid (Kx b f ma mc lm hm x4) := KM.out.nx hb
            clear TT
            have TT : Hid (Tp w a b sa sb sc sd x4) := NTT.out
            clear NTT
            clear KO
            have KO : Hid (Kx a f oa oc lo ho x4) := NKO.out
            clear NKO
            clear ZO
            have ZO : Hid (Zb cO (.int .i64 0) (.int .u8 0) (.slice none 0 0) x4) := NZO.out
            clear NZO
            clear KM
            have KM : Hid (Kx b f ma mc lm hm x4) := NKM.out
            clear NKM
            have ZM : Hid (Zb cM (.int .i64 0) (.int .u8 0) (.slice none 0 0) x4) := by show Zb _ _ _ _ _; rw [← hcM]; exact hz
            have EcM : Hid _ := hcM
            have FcM : Hid _ := hs
            clear hb hz hs hcM hx4
            refine hK.out _ _ TT.out.facts (fun hHeld => ?_)
            clear hK K
            try simp only [Act.put, List.getElem_toArray, List.getElem_cons_zero, List.getElem_cons_succ, List.setIfInBounds_toArray, List.set_cons_zero, List.set_cons_succ]
            refine wpAnyH_ready (rs := [6]) (by kernel_rfl) (by simp) ?_
            refine (AllReadyH.cons rfl (fun K hK => ?_) AllReadyH.nil)
            have z0 := ZO.out.z0
            have z1 := ZO.out.z1
            have z2 := ZO.out.z2
            have f0 := ZO.out.fz 0
            have f1 := ZO.out.fz 1
            have f2 := ZO.out.fz 2
            go_simp
            have hsv := Sv.set (X := x4) cO (.int .i64 a.rule) (.int .u8 (a.byte.toNat : Int)) (.slice oa a.kids.length oc)
            have hzz := ZO.out.set (.int .i64 a.rule) (.int .u8 (a.byte.toNat : Int)) (.slice oa a.kids.length oc)
            obtain ⟨x5, hx5⟩ : ∃ x5, ((x4.setCell ⟨cO, 0, none⟩ (.int .i64 a.rule)).setCell ⟨cO, 1, none⟩ (.int .u8 (a.byte.toNat : Int))).setCell ⟨cO, 2, none⟩ (.slice oa a.kids.length oc) = x5 := ⟨_, rfl⟩
            rw [hx5] at hsv hzz
            rw [hx5]
            have NTT : Hid (Tp w a b sa sb sc sd x5) := TT.out.sv hsv (by have := LT.out; have := Lo.out; have := Ho.out; have := Mo.out; have := EcO.out; have := FcO.out; have := Lm.out; have := Hm.out; have := Mm.out; have := EcM.out; have := FcM.out; omega)
            have NKO : Hid (Kx a f oa oc lo ho x5) := KO.out.sv hsv (by have := LT.out; have := Lo.out; have := Ho.out; have := Mo.out; have := EcO.out; have := FcO.out; have := Lm.out; have := Hm.out; have := Mm.out; have := EcM.out; have := FcM.out; omega)
            have NKM : Hid (Kx b f ma mc lm hm x5) := KM.out.sv hsv (by have := LT.out; have := Lo.out; have := Ho.out; have := Mo.out; have := EcO.out; have := FcO.out; have := Lm.out; have := Hm.out; have := Mm.out; have := EcM.out; have := FcM.out; omega)
            have NZM : Hid (Zb cM (.int .i64 0) (.int .u8 0) (.slice none 0 0) x5) := ZM.out.sv hsv (by have := LT.out; have := Lo.out; have := Ho.out; have := Mo.out; have := EcO.out; have := FcO.out; have := Lm.out; have := Hm.out; have := Mm.out; have := EcM.out; have := FcM.out; omega)
            clear TT
            have TT : Hid (Tp w a b sa sb sc sd x5) := NTT.out
            clear NTT
            clear KO
            have KO : Hid (Kx a f oa oc lo ho x5) := NKO.out
            clear NKO
            clear KM
            have KM : Hid (Kx b f ma mc lm hm x5) := NKM.out
            clear NKM
            clear ZM
            have ZM : Hid (Zb cM (.int .i64 0) (.int .u8 0) (.slice none 0 0) x5) := NZM.out
            clear NZM
            clear ZO
            have ZO : Hid (Zb cO (.int .i64 a.rule) (.int .u8 (a.byte.toNat : Int)) (.slice oa a.kids.length oc) x5) := hzz
            clear hsv hzz hx5 z0 z1 z2 f0 f1 f2
            refine hK.out _ _ TT.out.facts (fun hHeld => ?_)
            clear hK K
            try simp only [Act.put, List.getElem_toArray, List.getElem_cons_zero, List.getElem_cons_succ, List.setIfInBounds_toArray, List.set_cons_zero, List.set_cons_succ]
            refine wpAnyH_ready (rs := [7]) (by kernel_rfl) (by simp) ?_
            refine (AllReadyH.cons rfl (fun K hK => ?_) AllReadyH.nil)
            have z0 := ZM.out.z0
            have z1 := ZM.out.z1
            have z2 := ZM.out.z2
            have f0 := ZM.out.fz 0
            have f1 := ZM.out.fz 1
            have f2 := ZM.out.fz 2
            go_simp
            have hsv := Sv.set (X := x5) cM (.int .i64 b.rule) (.int .u8 (b.byte.toNat : Int)) (.slice ma b.kids.length mc)
            have hzz := ZM.out.set (.int .i64 b.rule) (.int .u8 (b.byte.toNat : Int)) (.slice ma b.kids.length mc)
            obtain ⟨x6, hx6⟩ : ∃ x6, ((x5.setCell ⟨cM, 0, none⟩ (.int .i64 b.rule)).setCell ⟨cM, 1, none⟩ (.int .u8 (b.byte.toNat : Int))).setCell ⟨cM, 2, none⟩ (.slice ma b.kids.length mc) = x6 := ⟨_, rfl⟩
            rw [hx6] at hsv hzz
            rw [hx6]
            have NTT : Hid (Tp w a b sa sb sc sd x6) := TT.out.sv hsv (by have := LT.out; have := Lo.out; have := Ho.out; have := Mo.out; have := EcO.out; have := FcO.out; have := Lm.out; have := Hm.out; have := Mm.out; have := EcM.out; have := FcM.out; omega)
            have NKO : Hid (Kx a f oa oc lo ho x6) := KO.out.sv hsv (by have := LT.out; have := Lo.out; have := Ho.out; have := Mo.out; have := EcO.out; have := FcO.out; have := Lm.out; have := Hm.out; have := Mm.out; have := EcM.out; have := FcM.out; omega)
            have NZO : Hid (Zb cO (.int .i64 a.rule) (.int .u8 (a.byte.toNat : Int)) (.slice oa a.kids.length oc) x6) := ZO.out.sv hsv (by have := LT.out; have := Lo.out; have := Ho.out; have := Mo.out; have := EcO.out; have := FcO.out; have := Lm.out; have := Hm.out; have := Mm.out; have := EcM.out; have := FcM.out; omega)
            have NKM : Hid (Kx b f ma mc lm hm x6) := KM.out.sv hsv (by have := LT.out; have := Lo.out; have := Ho.out; have := Mo.out; have := EcO.out; have := FcO.out; have := Lm.out; have := Hm.out; have := Mm.out; have := EcM.out; have := FcM.out; omega)
            clear TT
            have TT : Hid (Tp w a b sa sb sc sd x6) := NTT.out
            clear NTT
            clear KO
            have KO : Hid (Kx a f oa oc lo ho x6) := NKO.out
            clear NKO
            clear ZO
            have ZO : Hid (Zb cO (.int .i64 a.rule) (.int .u8 (a.byte.toNat : Int)) (.slice oa a.kids.length oc) x6) := NZO.out
            clear NZO
            clear KM
            have KM : Hid (Kx b f ma mc lm hm x6) := NKM.out
            clear NKM
            clear ZM
            have ZM : Hid (Zb cM (.int .i64 b.rule) (.int .u8 (b.byte.toNat : Int)) (.slice ma b.kids.length mc) x6) := hzz
            clear hsv hzz hx6 z0 z1 z2 f0 f1 f2
            refine hK.out _ _ TT.out.facts (fun hHeld => ?_)
            clear hK K
            try simp only [Act.put, List.getElem_toArray, List.getElem_cons_zero, List.getElem_cons_succ, List.setIfInBounds_toArray, List.set_cons_zero, List.set_cons_succ]
            refine wpAnyH_done (by kernel_rfl) ?_ _
            clear hHeld
            go_wp2
            go_meet
            exact ⟨cO, cM, oa, oc, ma, mc, lo, ho, lm, hm, rfl, rfl, ⟨TT.out, KO.out, KM.out, ZO.out, ZM.out, (by have := LT.out; have := Lo.out; have := Ho.out; have := Mo.out; have := EcO.out; have := FcO.out; have := Lm.out; have := Hm.out; have := Mm.out; have := EcM.out; have := FcM.out; omega), (by have := LT.out; have := Lo.out; have := Ho.out; have := Mo.out; have := EcO.out; have := FcO.out; have := Lm.out; have := Hm.out; have := Mm.out; have := EcM.out; have := FcM.out; omega), (by have := LT.out; have := Lo.out; have := Ho.out; have := Mo.out; have := EcO.out; have := FcO.out; have := Lm.out; have := Hm.out; have := Mm.out; have := EcM.out; have := FcM.out; omega), (by have := LT.out; have := Lo.out; have := Ho.out; have := Mo.out; have := EcO.out; have := FcO.out; have := Lm.out; have := Hm.out; have := Mm.out; have := EcM.out; have := FcM.out; omega), (by have := LT.out; have := Lo.out; have := Ho.out; have := Mo.out; have := EcO.out; have := FcO.out; have := Lm.out; have := Hm.out; have := Mm.out; have := EcM.out; have := FcM.out; omega), (by have := LT.out; have := Lo.out; have := Ho.out; have := Mo.out; have := EcO.out; have := FcO.out; have := Lm.out; have := Hm.out; have := Mm.out; have := EcM.out; have := FcM.out; omega), (by have := LT.out; have := Lo.out; have := Ho.out; have := Mo.out; have := EcO.out; have := FcO.out; have := Lm.out; have := Hm.out; have := Mm.out; have := EcM.out; have := FcM.out; omega)⟩⟩
        · go_simp
          obtain ⟨x3, hx3⟩ : ∃ x3, x2.alloc (.cells #[.int .i64 0, .int .u8 0, .slice none 0 0] 27) = x3 := ⟨_, rfl⟩
          have hb : Below x2.heap.size x2 x3 := by rw [← hx3]; exact (Below.refl _ _).alloc (Nat.le_refl _) _
          have hz : Zb x2.heap.size (.int .i64 0) (.int .u8 0) (.slice none 0 0) x3 := by rw [← hx3]; exact Zb.new _ _ _ _
          have hs : x3.heap.size = x2.heap.size + 1 := by rw [← hx3]; simp
          obtain ⟨cM, hcM⟩ : ∃ cM, x2.heap.size = cM := ⟨_, rfl⟩
          rw [hx3, hcM]
          have NTT : Hid (Tp w a b sa sb sc sd x3) := TT.out.nx hb
          have NKO : Hid (Kx a f oa oc lo ho x3) := KO.out.nx hb
          have NZO : Hid (Zb cO (.int .i64 0) (.int .u8 0) (.slice none 0 0) x3) := ZO.out.nx hb
          clear TT
          have TT : Hid (Tp w a b sa sb sc sd x3) := NTT.out
          clear NTT
          clear KO
          have KO : Hid (Kx a f oa oc lo ho x3) := NKO.out
          clear NKO
          clear ZO
          have ZO : Hid (Zb cO (.int .i64 0) (.int .u8 0) (.slice none 0 0) x3) := NZO.out
          clear NZO
          have ZM : Hid (Zb cM (.int .i64 0) (.int .u8 0) (.slice none 0 0) x3) := by show Zb _ _ _ _ _; rw [← hcM]; exact hz
          have EcM : Hid _ := hcM
          have FcM : Hid _ := hs
          clear hb hz hs hcM hx3
          refine hK.out _ _ TT.out.facts (fun hHeld => ?_)
          clear hK K
          try simp only [Act.put, List.getElem_toArray, List.getElem_cons_zero, List.getElem_cons_succ, List.setIfInBounds_toArray, List.set_cons_zero, List.set_cons_succ]
          refine wpAnyH_ready (rs := [3]) (by kernel_rfl) (by simp) ?_
          refine (AllReadyH.cons rfl (fun K hK => ?_) AllReadyH.nil)
          · go_simp
            refine (HCM.out _ TT.out).mono ?_
            rintro e x4 ⟨⟨ma, mc, rfl, hKM⟩, hb⟩
            have NTT : Hid (Tp w a b sa sb sc sd x4) := TT.out.nx hb
            have NKO : Hid (Kx a f oa oc lo ho x4) := KO.out.nx hb
            have NZO : Hid (Zb cO (.int .i64 0) (.int .u8 0) (.slice none 0 0) x4) := ZO.out.nx hb
            have NZM : Hid (Zb cM (.int .i64 0) (.int .u8 0) (.slice none 0 0) x4) := ZM.out.nx hb
            clear TT
            have TT : Hid (Tp w a b sa sb sc sd x4) := NTT.out
            clear NTT
            clear KO
            have KO : Hid (Kx a f oa oc lo ho x4) := NKO.out
            clear NKO
            clear ZO
            have ZO : Hid (Zb cO (.int .i64 0) (.int .u8 0) (.slice none 0 0) x4) := NZO.out
            clear NZO
            clear ZM
            have ZM : Hid (Zb cM (.int .i64 0) (.int .u8 0) (.slice none 0 0) x4) := NZM.out
            clear NZM
            obtain ⟨lm, hlm⟩ : ∃ lm, x3.heap.size = lm := ⟨_, rfl⟩
            obtain ⟨hm, hhm⟩ : ∃ hm, x4.heap.size = hm := ⟨_, rfl⟩
            have KM : Hid (Kx b f ma mc lm hm x4) := by show Kx _ _ _ _ _ _ _; rw [← hlm, ← hhm]; exact hKM
            have Lm : Hid _ := hlm
            have Hm : Hid _ := hhm
            have Mm : Hid _ := hb.size
            clear hb hKM hlm hhm
            go_wp2_with fail
            refine hK.out _ _ TT.out.facts (fun hHeld => ?_)
            clear hK K
            try simp only [Act.put, List.getElem_toArray, List.getElem_cons_zero, List.getElem_cons_succ, List.setIfInBounds_toArray, List.set_cons_zero, List.set_cons_succ]
            refine wpAnyH_ready (rs := [6]) (by kernel_rfl) (by simp) ?_
            refine (AllReadyH.cons rfl (fun K hK => ?_) AllReadyH.nil)
            have z0 := ZO.out.z0
            have z1 := ZO.out.z1
            have z2 := ZO.out.z2
            have f0 := ZO.out.fz 0
            have f1 := ZO.out.fz 1
            have f2 := ZO.out.fz 2
            go_simp
            have hsv := Sv.set (X := x4) cO (.int .i64 a.rule) (.int .u8 (a.byte.toNat : Int)) (.slice oa a.kids.length oc)
            have hzz := ZO.out.set (.int .i64 a.rule) (.int .u8 (a.byte.toNat : Int)) (.slice oa a.kids.length oc)
            obtain ⟨x5, hx5⟩ : ∃ x5, ((x4.setCell ⟨cO, 0, none⟩ (.int .i64 a.rule)).setCell ⟨cO, 1, none⟩ (.int .u8 (a.byte.toNat : Int))).setCell ⟨cO, 2, none⟩ (.slice oa a.kids.length oc) = x5 := ⟨_, rfl⟩
            rw [hx5] at hsv hzz
            rw [hx5]
            have NTT : Hid (Tp w a b sa sb sc sd x5) := TT.out.sv hsv (by have := LT.out; have := Lo.out; have := Ho.out; have := Mo.out; have := EcO.out; have := FcO.out; have := EcM.out; have := FcM.out; have := Lm.out; have := Hm.out; have := Mm.out; omega)
            have NKO : Hid (Kx a f oa oc lo ho x5) := KO.out.sv hsv (by have := LT.out; have := Lo.out; have := Ho.out; have := Mo.out; have := EcO.out; have := FcO.out; have := EcM.out; have := FcM.out; have := Lm.out; have := Hm.out; have := Mm.out; omega)
            have NZM : Hid (Zb cM (.int .i64 0) (.int .u8 0) (.slice none 0 0) x5) := ZM.out.sv hsv (by have := LT.out; have := Lo.out; have := Ho.out; have := Mo.out; have := EcO.out; have := FcO.out; have := EcM.out; have := FcM.out; have := Lm.out; have := Hm.out; have := Mm.out; omega)
            have NKM : Hid (Kx b f ma mc lm hm x5) := KM.out.sv hsv (by have := LT.out; have := Lo.out; have := Ho.out; have := Mo.out; have := EcO.out; have := FcO.out; have := EcM.out; have := FcM.out; have := Lm.out; have := Hm.out; have := Mm.out; omega)
            clear TT
            have TT : Hid (Tp w a b sa sb sc sd x5) := NTT.out
            clear NTT
            clear KO
            have KO : Hid (Kx a f oa oc lo ho x5) := NKO.out
            clear NKO
            clear ZM
            have ZM : Hid (Zb cM (.int .i64 0) (.int .u8 0) (.slice none 0 0) x5) := NZM.out
            clear NZM
            clear KM
            have KM : Hid (Kx b f ma mc lm hm x5) := NKM.out
            clear NKM
            clear ZO
            have ZO : Hid (Zb cO (.int .i64 a.rule) (.int .u8 (a.byte.toNat : Int)) (.slice oa a.kids.length oc) x5) := hzz
            clear hsv hzz hx5 z0 z1 z2 f0 f1 f2
            refine hK.out _ _ TT.out.facts (fun hHeld => ?_)
            clear hK K
            try simp only [Act.put, List.getElem_toArray, List.getElem_cons_zero, List.getElem_cons_succ, List.setIfInBounds_toArray, List.set_cons_zero, List.set_cons_succ]
            refine wpAnyH_ready (rs := [7]) (by kernel_rfl) (by simp) ?_
            refine (AllReadyH.cons rfl (fun K hK => ?_) AllReadyH.nil)
            have z0 := ZM.out.z0
            have z1 := ZM.out.z1
            have z2 := ZM.out.z2
            have f0 := ZM.out.fz 0
            have f1 := ZM.out.fz 1
            have f2 := ZM.out.fz 2
            go_simp
            have hsv := Sv.set (X := x5) cM (.int .i64 b.rule) (.int .u8 (b.byte.toNat : Int)) (.slice ma b.kids.length mc)
            have hzz := ZM.out.set (.int .i64 b.rule) (.int .u8 (b.byte.toNat : Int)) (.slice ma b.kids.length mc)
            obtain ⟨x6, hx6⟩ : ∃ x6, ((x5.setCell ⟨cM, 0, none⟩ (.int .i64 b.rule)).setCell ⟨cM, 1, none⟩ (.int .u8 (b.byte.toNat : Int))).setCell ⟨cM, 2, none⟩ (.slice ma b.kids.length mc) = x6 := ⟨_, rfl⟩
            rw [hx6] at hsv hzz
            rw [hx6]
            have NTT : Hid (Tp w a b sa sb sc sd x6) := TT.out.sv hsv (by have := LT.out; have := Lo.out; have := Ho.out; have := Mo.out; have := EcO.out; have := FcO.out; have := EcM.out; have := FcM.out; have := Lm.out; have := Hm.out; have := Mm.out; omega)
            have NKO : Hid (Kx a f oa oc lo ho x6) := KO.out.sv hsv (by have := LT.out; have := Lo.out; have := Ho.out; have := Mo.out; have := EcO.out; have := FcO.out; have := EcM.out; have := FcM.out; have := Lm.out; have := Hm.out; have := Mm.out; omega)
            have NZO : Hid (Zb cO (.int .i64 a.rule) (.int .u8 (a.byte.toNat : Int)) (.slice oa a.kids.length oc) x6) := ZO.out.sv hsv (by have := LT.out; have := Lo.out; have := Ho.out; have := Mo.out; have := EcO.out; have := FcO.out; have := EcM.out; have := FcM.out; have := Lm.out; have := Hm.out; have := Mm.out; omega)
            have NKM : Hid (Kx b f ma mc lm hm x6) := KM.out.sv hsv (by have := LT.out; have := Lo.out; have := Ho.out; have := Mo.out; have := EcO.out; have := FcO.out; have := EcM.out; have := FcM.out; have := Lm.out; have := Hm.out; have := Mm.out; omega)
            clear TT
            have TT : Hid (Tp w a b sa sb sc sd x6) := NTT.out
            clear NTT
            clear KO
            have KO : Hid (Kx a f oa oc lo ho x6) := NKO.out
            clear NKO
            clear ZO
            have ZO : Hid (Zb cO (.int .i64 a.rule) (.int .u8 (a.byte.toNat : Int)) (.slice oa a.kids.length oc) x6) := NZO.out
            clear NZO
            clear KM
            have KM : Hid (Kx b f ma mc lm hm x6) := NKM.out
            clear NKM
            clear ZM
            have ZM : Hid (Zb cM (.int .i64 b.rule) (.int .u8 (b.byte.toNat : Int)) (.slice ma b.kids.length mc) x6) := hzz
            clear hsv hzz hx6 z0 z1 z2 f0 f1 f2
            refine hK.out _ _ TT.out.facts (fun hHeld => ?_)
            clear hK K
            try simp only [Act.put, List.getElem_toArray, List.getElem_cons_zero, List.getElem_cons_succ, List.setIfInBounds_toArray, List.set_cons_zero, List.set_cons_succ]
            refine wpAnyH_done (by kernel_rfl) ?_ _
            clear hHeld
            go_wp2
            go_meet
            exact ⟨cO, cM, oa, oc, ma, mc, lo, ho, lm, hm, rfl, rfl, ⟨TT.out, KO.out, KM.out, ZO.out, ZM.out, (by have := LT.out; have := Lo.out; have := Ho.out; have := Mo.out; have := EcO.out; have := FcO.out; have := EcM.out; have := FcM.out; have := Lm.out; have := Hm.out; have := Mm.out; omega), (by have := LT.out; have := Lo.out; have := Ho.out; have := Mo.out; have := EcO.out; have := FcO.out; have := EcM.out; have := FcM.out; have := Lm.out; have := Hm.out; have := Mm.out; omega), (by have := LT.out; have := Lo.out; have := Ho.out; have := Mo.out; have := EcO.out; have := FcO.out; have := EcM.out; have := FcM.out; have := Lm.out; have := Hm.out; have := Mm.out; omega), (by have := LT.out; have := Lo.out; have := Ho.out; have := Mo.out; have := EcO.out; have := FcO.out; have := EcM.out; have := FcM.out; have := Lm.out; have := Hm.out; have := Mm.out; omega), (by have := LT.out; have := Lo.out; have := Ho.out; have := Mo.out; have := EcO.out; have := FcO.out; have := EcM.out; have := FcM.out; have := Lm.out; have := Hm.out; have := Mm.out; omega), (by have := LT.out; have := Lo.out; have := Ho.out; have := Mo.out; have := EcO.out; have := FcO.out; have := EcM.out; have := FcM.out; have := Lm.out; have := Hm.out; have := Mm.out; omega), (by have := LT.out; have := Lo.out; have := Ho.out; have := Mo.out; have := EcO.out; have := FcO.out; have := EcM.out; have := FcM.out; have := Lm.out; have := Hm.out; have := Mm.out; omega)⟩⟩
      · go_simp
        obtain ⟨x2, hx2⟩ : ∃ x2, x1.alloc (.cells #[.int .i64 0, .int .u8 0, .slice none 0 0] 27) = x2 := ⟨_, rfl⟩
        have hb : Below x1.heap.size x1 x2 := by rw [← hx2]; exact (Below.refl _ _).alloc (Nat.le_refl _) _
        have hz : Zb x1.heap.size (.int .i64 0) (.int .u8 0) (.slice none 0 0) x2 := by rw [← hx2]; exact Zb.new _ _ _ _
        have hs : x2.heap.size = x1.heap.size + 1 := by rw [← hx2]; simp
        obtain ⟨cM, hcM⟩ : ∃ cM, x1.heap.size = cM := ⟨_, rfl⟩
        rw [hx2, hcM]
        have NTT : Hid (Tp w a b sa sb sc sd x2) := TT.out.nx hb
        have NKO : Hid (Kx a f oa oc lo ho x2) := KO.out.nx hb
        clear TT
        have TT : Hid (Tp w a b sa sb sc sd x2) := NTT.out
        clear NTT
        clear KO
        have KO : Hid (Kx a f oa oc lo ho x2) := NKO.out
        clear NKO
        have ZM : Hid (Zb cM (.int .i64 0) (.int .u8 0) (.slice none 0 0) x2) := by show Zb _ _ _ _ _; rw [← hcM]; exact hz
        have EcM : Hid _ := hcM
        have FcM : Hid _ := hs
        clear hb hz hs hcM hx2
        refine hK.out _ _ TT.out.facts (fun hHeld => ?_)
        clear hK K
        try simp only [Act.put, List.getElem_toArray, List.getElem_cons_zero, List.getElem_cons_succ, List.setIfInBounds_toArray, List.set_cons_zero, List.set_cons_succ]
        refine wpAnyH_ready (rs := [3, 4]) (by kernel_rfl) (by simp) ?_
        refine (AllReadyH.cons rfl (fun K hK => ?_) (AllReadyH.cons rfl (fun K hK => ?_) AllReadyH.nil))
        · go_simp
          refine (HCM.out _ TT.out).mono ?_
          rintro e x3 ⟨⟨ma, mc, rfl, hKM⟩, hb⟩
          have NTT : Hid (Tp w a b sa sb sc sd x3) := TT.out.nx hb
          have NKO : Hid (Kx a f oa oc lo ho x3) := KO.out.nx hb
          have NZM : Hid (Zb cM (.int .i64 0) (.int .u8 0) (.slice none 0 0) x3) := ZM.out.nx hb
          clear TT
          have TT : Hid (Tp w a b sa sb sc sd x3) := NTT.out
          clear NTT
          clear KO
          have KO : Hid (Kx a f oa oc lo ho x3) := NKO.out
          clear NKO
          clear ZM
          have ZM : Hid (Zb cM (.int .i64 0) (.int .u8 0) (.slice none 0 0) x3) := NZM.out
          clear NZM
          obtain ⟨lm, hlm⟩ : ∃ lm, x2.heap.size = lm := ⟨_, rfl⟩
          obtain ⟨hm, hhm⟩ : ∃ hm, x3.heap.size = hm := ⟨_, rfl⟩
          have KM : Hid (Kx b f ma mc lm hm x3) := by show Kx _ _ _ _ _ _ _; rw [← hlm, ← hhm]; exact hKM
          have Lm : Hid _ := hlm
          have Hm : Hid _ := hhm
          have Mm : Hid _ := hb.size
          clear hb hKM hlm hhm
          go_wp2_with fail
          refine hK.out _ _ TT.out.facts (fun hHeld => ?_)
          clear hK K
          try simp only [Act.put, List.getElem_toArray, List.getElem_cons_zero, List.getElem_cons_succ, List.setIfInBounds_toArray, List.set_cons_zero, List.set_cons_succ]
          refine wpAnyH_ready (rs := [4]) (by kernel_rfl) (by simp) ?_
          refine (AllReadyH.cons rfl (fun K hK => ?_) AllReadyH.nil)
          · go_simp
            obtain ⟨x4, hx4⟩ : ∃ x4, x3.alloc (.cells #[.int .i64 0, .int .u8 0, .slice none 0 0] 27) = x4 := ⟨_, rfl⟩
            have hb : Below x3.heap.size x3 x4 := by rw [← hx4]; exact (Below.refl _ _).alloc (Nat.le_refl _) _
            have hz : Zb x3.heap.size (.int .i64 0) (.int .u8 0) (.slice none 0 0) x4 := by rw [← hx4]; exact Zb.new _ _ _ _
            have hs : x4.heap.size = x3.heap.size + 1 := by rw [← hx4]; simp
            obtain ⟨cO, hcO⟩ : ∃ cO, x3.heap.size = cO := ⟨_, rfl⟩
            rw [hx4, hcO]
            have NTT : Hid (Tp w a b sa sb sc sd x4) := TT.out.nx hb
            have NKO : Hid (Kx a f oa oc lo ho x4) := KO.out.nx hb
            have NZM : Hid (Zb cM (.int .i64 0) (.int .u8 0) (.slice none 0 0) x4) := ZM.out.nx hb
            have NKM : Hid (Kx b f ma mc lm hm x4) := KM.out.nx hb
            clear TT
            have TT : Hid (Tp w a b sa sb sc sd x4) := NTT.out
            clear NTT
            clear KO
            have KO : Hid (Kx a f oa oc lo ho x4) := NKO.out
            clear NKO
            clear ZM
            have ZM : Hid (Zb cM (.int .i64 0) (.int .u8 0) (.slice none 0 0) x4) := NZM.out
            clear NZM
            clear KM
            have KM : Hid (Kx b f ma mc lm hm x4) := NKM.out
            clear NKM
            have ZO : Hid (Zb cO (.int .i64 0) (.int .u8 0) (.slice none 0 0) x4) := by show Zb _ _ _ _ _; rw [← hcO]; exact hz
            have EcO : Hid _ := hcO
            have FcO : Hid _ := hs
            clear hb hz hs hcO hx4
            refine hK.out _ _ TT.out.facts (fun hHeld => ?_)
            clear hK K
            try simp only [Act.put, List.getElem_toArray, List.getElem_cons_zero, List.getElem_cons_succ, List.setIfInBounds_toArray, List.set_cons_zero, List.set_cons_succ]
            refine wpAnyH_ready (rs := [6]) (by kernel_rfl) (by simp) ?_
            refine (AllReadyH.cons rfl (fun K hK => ?_) AllReadyH.nil)
            have z0 := ZO.out.z0
            have z1 := ZO.out.z1
            have z2 := ZO.out.z2
            have f0 := ZO.out.fz 0
            have f1 := ZO.out.fz 1
            have f2 := ZO.out.fz 2
            go_simp
            have hsv := Sv.set (X := x4) cO (.int .i64 a.rule) (.int .u8 (a.byte.toNat : Int)) (.slice oa a.kids.length oc)
            have hzz := ZO.out.set (.int .i64 a.rule) (.int .u8 (a.byte.toNat : Int)) (.slice oa a.kids.length oc)
            obtain ⟨x5, hx5⟩ : ∃ x5, ((x4.setCell ⟨cO, 0, none⟩ (.int .i64 a.rule)).setCell ⟨cO, 1, none⟩ (.int .u8 (a.byte.toNat : Int))).setCell ⟨cO, 2, none⟩ (.slice oa a.kids.length oc) = x5 := ⟨_, rfl⟩
            rw [hx5] at hsv hzz
            rw [hx5]
            have NTT : Hid (Tp w a b sa sb sc sd x5) := TT.out.sv hsv (by have := LT.out; have := Lo.out; have := Ho.out; have := Mo.out; have := EcM.out; have := FcM.out; have := Lm.out; have := Hm.out; have := Mm.out; have := EcO.out; have := FcO.out; omega)
            have NKO : Hid (Kx a f oa oc lo ho x5) := KO.out.sv hsv (by have := LT.out; have := Lo.out; have := Ho.out; have := Mo.out; have := EcM.out; have := FcM.out; have := Lm.out; have := Hm.out; have := Mm.out; have := EcO.out; have := FcO.out; omega)
            have NZM : Hid (Zb cM (.int .i64 0) (.int .u8 0) (.slice none 0 0) x5) := ZM.out.sv hsv (by have := LT.out; have := Lo.out; have := Ho.out; have := Mo.out; have := EcM.out; have := FcM.out; have := Lm.out; have := Hm.out; have := Mm.out; have := EcO.out; have := FcO.out; omega)
            have NKM : Hid (Kx b f ma mc lm hm x5) := KM.out.sv hsv (by have := LT.out; have := Lo.out; have := Ho.out; have := Mo.out; have := EcM.out; have := FcM.out; have := Lm.out; have := Hm.out; have := Mm.out; have := EcO.out; have := FcO.out; omega)
            clear TT
            have TT : Hid (Tp w a b sa sb sc sd x5) := NTT.out
            clear NTT
            clear KO
            have KO : Hid (Kx a f oa oc lo ho x5) := NKO.out
            clear NKO
            clear ZM
            have ZM : Hid (Zb cM (.int .i64 0) (.int .u8 0) (.slice none 0 0) x5) := NZM.out
            clear NZM
            clear KM
            have KM : Hid (Kx b f ma mc lm hm x5) := NKM.out
            clear NKM
            clear ZO
            have ZO : Hid (Zb cO (.int .i64 a.rule) (.int .u8 (a.byte.toNat : Int)) (.slice oa a.kids.length oc) x5) := hzz
            clear hsv hzz hx5 z0 z1 z2 f0 f1 f2
            refine hK.out _ _ TT.out.facts (fun hHeld => ?_)
            clear hK K
            try simp only [Act.put, List.getElem_toArray, List.getElem_cons_zero, List.getElem_cons_succ, List.setIfInBounds_toArray, List.set_cons_zero, List.set_cons_succ]
            refine wpAnyH_ready (rs := [7]) (by kernel_rfl) (by simp) ?_
            refine (AllReadyH.cons rfl (fun K hK => ?_) AllReadyH.nil)
            have z0 := ZM.out.z0
            have z1 := ZM.out.z1
            have z2 := ZM.out.z2
            have f0 := ZM.out.fz 0
            have f1 := ZM.out.fz 1
            have f2 := ZM.out.fz 2
            go_simp
            have hsv := Sv.set (X := x5) cM (.int .i64 b.rule) (.int .u8 (b.byte.toNat : Int)) (.slice ma b.kids.length mc)
            have hzz := ZM.out.set (.int .i64 b.rule) (.int .u8 (b.byte.toNat : Int)) (.slice ma b.kids.length mc)
            obtain ⟨x6, hx6⟩ : ∃ x6, ((x5.setCell ⟨cM, 0, none⟩ (.int .i64 b.rule)).setCell ⟨cM, 1, none⟩ (.int .u8 (b.byte.toNat : Int))).setCell ⟨cM, 2, none⟩ (.slice ma b.kids.length mc) = x6 := ⟨_, rfl⟩
            rw [hx6] at hsv hzz
            rw [hx6]
            have NTT : Hid (Tp w a b sa sb sc sd x6) := TT.out.sv hsv (by have := LT.out; have := Lo.out; have := Ho.out; have := Mo.out; have := EcM.out; have := FcM.out; have := Lm.out; have := Hm.out; have := Mm.out; have := EcO.out; have := FcO.out; omega)
            have NKO : Hid (Kx a f oa oc lo ho x6) := KO.out.sv hsv (by have := LT.out; have := Lo.out; have := Ho.out; have := Mo.out; have := EcM.out; have := FcM.out; have := Lm.out; have := Hm.out; have := Mm.out; have := EcO.out; have := FcO.out; omega)
            have NKM : Hid (Kx b f ma mc lm hm x6) := KM.out.sv hsv (by have := LT.out; have := Lo.out; have := Ho.out; have := Mo.out; have := EcM.out; have := FcM.out; have := Lm.out; have := Hm.out; have := Mm.out; have := EcO.out; have := FcO.out; omega)
            have NZO : Hid (Zb cO (.int .i64 a.rule) (.int .u8 (a.byte.toNat : Int)) (.slice oa a.kids.length oc) x6) := ZO.out.sv hsv (by have := LT.out; have := Lo.out; have := Ho.out; have := Mo.out; have := EcM.out; have := FcM.out; have := Lm.out; have := Hm.out; have := Mm.out; have := EcO.out; have := FcO.out; omega)
            clear TT
            have TT : Hid (Tp w a b sa sb sc sd x6) := NTT.out
            clear NTT
            clear KO
            have KO : Hid (Kx a f oa oc lo ho x6) := NKO.out
            clear NKO
            clear KM
            have KM : Hid (Kx b f ma mc lm hm x6) := NKM.out
            clear NKM
            clear ZO
            have ZO : Hid (Zb cO (.int .i64 a.rule) (.int .u8 (a.byte.toNat : Int)) (.slice oa a.kids.length oc) x6) := NZO.out
            clear NZO
            clear ZM
            have ZM : Hid (Zb cM (.int .i64 b.rule) (.int .u8 (b.byte.toNat : Int)) (.slice ma b.kids.length mc) x6) := hzz
            clear hsv hzz hx6 z0 z1 z2 f0 f1 f2
            refine hK.out _ _ TT.out.facts (fun hHeld => ?_)
            clear hK K
            try simp only [Act.put, List.getElem_toArray, List.getElem_cons_zero, List.getElem_cons_succ, List.setIfInBounds_toArray, List.set_cons_zero, List.set_cons_succ]
            refine wpAnyH_done (by kernel_rfl) ?_ _
            clear hHeld
            go_wp2
            go_meet
            exact ⟨cO, cM, oa, oc, ma, mc, lo, ho, lm, hm, rfl, rfl, ⟨TT.out, KO.out, KM.out, ZO.out, ZM.out, (by have := LT.out; have := Lo.out; have := Ho.out; have := Mo.out; have := EcM.out; have := FcM.out; have := Lm.out; have := Hm.out; have := Mm.out; have := EcO.out; have := FcO.out; omega), (by have := LT.out; have := Lo.out; have := Ho.out; have := Mo.out; have := EcM.out; have := FcM.out; have := Lm.out; have := Hm.out; have := Mm.out; have := EcO.out; have := FcO.out; omega), (by have := LT.out; have := Lo.out; have := Ho.out; have := Mo.out; have := EcM.out; have := FcM.out; have := Lm.out; have := Hm.out; have := Mm.out; have := EcO.out; have := FcO.out; omega), (by have := LT.out; have := Lo.out; have := Ho.out; have := Mo.out; have := EcM.out; have := FcM.out; have := Lm.out; have := Hm.out; have := Mm.out; have := EcO.out; have := FcO.out; omega), (by have := LT.out; have := Lo.out; have := Ho.out; have := Mo.out; have := EcM.out; have := FcM.out; have := Lm.out; have := Hm.out; have := Mm.out; have := EcO.out; have := FcO.out; omega), (by have := LT.out; have := Lo.out; have := Ho.out; have := Mo.out; have := EcM.out; have := FcM.out; have := Lm.out; have := Hm.out; have := Mm.out; have := EcO.out; have := FcO.out; omega), (by have := LT.out; have := Lo.out; have := Ho.out; have := Mo.out; have := EcM.out; have := FcM.out; have := Lm.out; have := Hm.out; have := Mm.out; have := EcO.out; have := FcO.out; omega)⟩⟩
        · go_simp
          obtain ⟨x3, hx3⟩ : ∃ x3, x2.alloc (.cells #[.int .i64 0, .int .u8 0, .slice none 0 0] 27) = x3 := ⟨_, rfl⟩
          have hb : Below x2.heap.size x2 x3 := by rw [← hx3]; exact (Below.refl _ _).alloc (Nat.le_refl _) _
          have hz : Zb x2.heap.size (.int .i64 0) (.int .u8 0) (.slice none 0 0) x3 := by rw [← hx3]; exact Zb.new _ _ _ _
          have hs : x3.heap.size = x2.heap.size + 1 := by rw [← hx3]; simp
          obtain ⟨cO, hcO⟩ : ∃ cO, x2.heap.size = cO := ⟨_, rfl⟩
          rw [hx3, hcO]
          have NTT : Hid (Tp w a b sa sb sc sd x3) := TT.out.nx hb
          have NKO : Hid (Kx a f oa oc lo ho x3) := KO.out.nx hb
          have NZM : Hid (Zb cM (.int .i64 0) (.int .u8 0) (.slice none 0 0) x3) := ZM.out.nx hb
          clear TT
          have TT : Hid (Tp w a b sa sb sc sd x3) := NTT.out
          clear NTT
          clear KO
          have KO : Hid (Kx a f oa oc lo ho x3) := NKO.out
          clear NKO
          clear ZM
          have ZM : Hid (Zb cM (.int .i64 0) (.int .u8 0) (.slice none 0 0) x3) := NZM.out
          clear NZM
          have ZO : Hid (Zb cO (.int .i64 0) (.int .u8 0) (.slice none 0 0) x3) := by show Zb _ _ _ _ _; rw [← hcO]; exact hz
          have EcO : Hid _ := hcO
          have FcO : Hid _ := hs
          clear hb hz hs hcO hx3
          refine hK.out _ _ TT.out.facts (fun hHeld => ?_)
          clear hK K
          try simp only [Act.put, List.getElem_toArray, List.getElem_cons_zero, List.getElem_cons_succ, List.setIfInBounds_toArray, List.set_cons_zero, List.set_cons_succ]
          refine wpAnyH_ready (rs := [3]) (by kernel_rfl) (by simp) ?_
          refine (AllReadyH.cons rfl (fun K hK => ?_) AllReadyH.nil)
          · go_simp
            refine (HCM.out _ TT.out).mono ?_
            rintro e x4 ⟨⟨ma, mc, rfl, hKM⟩, hb⟩
            have NTT : Hid (Tp w a b sa sb sc sd x4) := TT.out.nx hb
            have NKO : Hid (Kx a f oa oc lo ho x4) := KO.out.nx hb
            have NZM : Hid (Zb cM (.int .i64 0) (.int .u8 0) (.slice none 0 0) x4) := ZM.out.nx hb
            have NZO : Hid (Zb cO (.int .i64 0) (.int .u8 0) (.slice none 0 0) x4) := ZO.out.nx hb
            clear TT
            have TT : Hid (Tp w a b sa sb sc sd x4) := NTT.out
            clear NTT
            clear KO
            have KO : Hid (Kx a f oa oc lo ho x4) := NKO.out
            clear NKO
            clear ZM
            have ZM : Hid (Zb cM (.int .i64 0) (.int .u8 0) (.slice none 0 0) x4) := NZM.out
            clear NZM
            clear ZO
            have ZO : Hid (Zb cO (.int .i64 0) (.int .u8 0) (.slice none 0 0) x4) := NZO.out
            clear NZO
            obtain ⟨lm, hlm⟩ : ∃ lm, x3.heap.size = lm := ⟨_, rfl⟩
            obtain ⟨hm, hhm⟩ : ∃ hm, x4.heap.size = hm := ⟨_, rfl⟩
            have KM : Hid (Kx b f ma mc lm hm x4) := by show Kx _ _ _ _ _ _ _; rw [← hlm, ← hhm]; exact hKM
            have Lm : Hid _ := hlm
            have Hm : Hid _ := hhm
            have Mm : Hid _ := hb.size
            clear hb hKM hlm hhm
            go_wp2_with fail
            refine hK.out _ _ TT.out.facts (fun hHeld => ?_)
            clear hK K
            try simp only [Act.put, List.getElem_toArray, List.getElem_cons_zero, List.getElem_cons_succ, List.setIfInBounds_toArray, List.set_cons_zero, List.set_cons_succ]
            refine wpAnyH_ready (rs := [6]) (by kernel_rfl) (by simp) ?_
            refine (AllReadyH.cons rfl (fun K hK => ?_) AllReadyH.nil)
            have z0 := ZO.out.z0
            have z1 := ZO.out.z1
            have z2 := ZO.out.z2
            have f0 := ZO.out.fz 0
            have f1 := ZO.out.fz 1
            have f2 := ZO.out.fz 2
            go_simp
            have hsv := Sv.set (X := x4) cO (.int .i64 a.rule) (.int .u8 (a.byte.toNat : Int)) (.slice oa a.kids.length oc)
            have hzz := ZO.out.set (.int .i64 a.rule) (.int .u8 (a.byte.toNat : Int)) (.slice oa a.kids.length oc)
            obtain ⟨x5, hx5⟩ : ∃ x5, ((x4.setCell ⟨cO, 0, none⟩ (.int .i64 a.rule)).setCell ⟨cO, 1, none⟩ (.int .u8 (a.byte.toNat : Int))).setCell ⟨cO, 2, none⟩ (.slice oa a.kids.length oc) = x5 := ⟨_, rfl⟩
            rw [hx5] at hsv hzz
            rw [hx5]
            have NTT : Hid (Tp w a b sa sb sc sd x5) := TT.out.sv hsv (by have := LT.out; have := Lo.out; have := Ho.out; have := Mo.out; have := EcM.out; have := FcM.out; have := EcO.out; have := FcO.out; have := Lm.out; have := Hm.out; have := Mm.out; omega)
            have NKO : Hid (Kx a f oa oc lo ho x5) := KO.out.sv hsv (by have := LT.out; have := Lo.out; have := Ho.out; have := Mo.out; have := EcM.out; have := FcM.out; have := EcO.out; have := FcO.out; have := Lm.out; have := Hm.out; have := Mm.out; omega)
            have NZM : Hid (Zb cM (.int .i64 0) (.int .u8 0) (.slice none 0 0) x5) := ZM.out.sv hsv (by have := LT.out; have := Lo.out; have := Ho.out; have := Mo.out; have := EcM.out; have := FcM.out; have := EcO.out; have := FcO.out; have := Lm.out; have := Hm.out; have := Mm.out; omega)
            have NKM : Hid (Kx b f ma mc lm hm x5) := KM.out.sv hsv (by have := LT.out; have := Lo.out; have := Ho.out; have := Mo.out; have := EcM.out; have := FcM.out; have := EcO.out; have := FcO.out; have := Lm.out; have := Hm.out; have := Mm.out; omega)
            clear TT
            have TT : Hid (Tp w a b sa sb sc sd x5) := NTT.out
            clear NTT
            clear KO
            have KO : Hid (Kx a f oa oc lo ho x5) := NKO.out
            clear NKO
            clear ZM
            have ZM : Hid (Zb cM (.int .i64 0) (.int .u8 0) (.slice none 0 0) x5) := NZM.out
            clear NZM
            clear KM
            have KM : Hid (Kx b f ma mc lm hm x5) := NKM.out
            clear NKM
            clear ZO
            have ZO : Hid (Zb cO (.int .i64 a.rule) (.int .u8 (a.byte.toNat : Int)) (.slice oa a.kids.length oc) x5) := hzz
            clear hsv hzz hx5 z0 z1 z2 f0 f1 f2
            refine hK.out _ _ TT.out.facts (fun hHeld => ?_)
            clear hK K
            try simp only [Act.put, List.getElem_toArray, List.getElem_cons_zero, List.getElem_cons_succ, List.setIfInBounds_toArray, List.set_cons_zero, List.set_cons_succ]
            refine wpAnyH_ready (rs := [7]) (by kernel_rfl) (by simp) ?_
            refine (AllReadyH.cons rfl (fun K hK => ?_) AllReadyH.nil)
            have z0 := ZM.out.z0
            have z1 := ZM.out.z1
            have z2 := ZM.out.z2
            have f0 := ZM.out.fz 0
            have f1 := ZM.out.fz 1
            have f2 := ZM.out.fz 2
            go_simp
            have hsv := Sv.set (X := x5) cM (.int .i64 b.rule) (.int .u8 (b.byte.toNat : Int)) (.slice ma b.kids.length mc)
            have hzz := ZM.out.set (.int .i64 b.rule) (.int .u8 (b.byte.toNat : Int)) (.slice ma b.kids.length mc)
            obtain ⟨x6, hx6⟩ : ∃ x6, ((x5.setCell ⟨cM, 0, none⟩ (.int .i64 b.rule)).setCell ⟨cM, 1, none⟩ (.int .u8 (b.byte.toNat : Int))).setCell ⟨cM, 2, none⟩ (.slice ma b.kids.length mc) = x6 := ⟨_, rfl⟩
            rw [hx6] at hsv hzz
            rw [hx6]
            have NTT : Hid (Tp w a b sa sb sc sd x6) := TT.out.sv hsv (by have := LT.out; have := Lo.out; have := Ho.out; have := Mo.out; have := EcM.out; have := FcM.out; have := EcO.out; have := FcO.out; have := Lm.out; have := Hm.out; have := Mm.out; omega)
            have NKO : Hid (Kx a f oa oc lo ho x6) := KO.out.sv hsv (by have := LT.out; have := Lo.out; have := Ho.out; have := Mo.out; have := EcM.out; have := FcM.out; have := EcO.out; have := FcO.out; have := Lm.out; have := Hm.out; have := Mm.out; omega)
            have NZO : Hid (Zb cO (.int .i64 a.rule) (.int .u8 (a.byte.toNat : Int)) (.slice oa a.kids.length oc) x6) := ZO.out.sv hsv (by have := LT.out; have := Lo.out; have := Ho.out; have := Mo.out; have := EcM.out; have := FcM.out; have := EcO.out; have := FcO.out; have := Lm.out; have := Hm.out; have := Mm.out; omega)
            have NKM : Hid (Kx b f ma mc lm hm x6) := KM.out.sv hsv (by have := LT.out; have := Lo.out; have := Ho.out; have := Mo.out; have := EcM.out; have := FcM.out; have := EcO.out; have := FcO.out; have := Lm.out; have := Hm.out; have := Mm.out; omega)
            clear TT
            have TT : Hid (Tp w a b sa sb sc sd x6) := NTT.out
            clear NTT
            clear KO
            have KO : Hid (Kx a f oa oc lo ho x6) := NKO.out
            clear NKO
            clear ZO
            have ZO : Hid (Zb cO (.int .i64 a.rule) (.int .u8 (a.byte.toNat : Int)) (.slice oa a.kids.length oc) x6) := NZO.out
            clear NZO
            clear KM
            have KM : Hid (Kx b f ma mc lm hm x6) := NKM.out
            clear NKM
            clear ZM
            have ZM : Hid (Zb cM (.int .i64 b.rule) (.int .u8 (b.byte.toNat : Int)) (.slice ma b.kids.length mc) x6) := hzz
            clear hsv hzz hx6 z0 z1 z2 f0 f1 f2
            refine hK.out _ _ TT.out.facts (fun hHeld => ?_)
            clear hK K
            try simp only [Act.put, List.getElem_toArray, List.getElem_cons_zero, List.getElem_cons_succ, List.setIfInBounds_toArray, List.set_cons_zero, List.set_cons_succ]
            refine wpAnyH_done (by kernel_rfl) ?_ _
            clear hHeld
            go_wp2
            go_meet
            exact ⟨cO, cM, oa, oc, ma, mc, lo, ho, lm, hm, rfl, rfl, ⟨TT.out, KO.out, KM.out, ZO.out, ZM.out, (by have := LT.out; have := Lo.out; have := Ho.out; have := Mo.out; have := EcM.out; have := FcM.out; have := EcO.out; have := FcO.out; have := Lm.out; have := Hm.out; have := Mm.out; omega), (by have := LT.out; have := Lo.out; have := Ho.out; have := Mo.out; have := EcM.out; have := FcM.out; have := EcO.out; have := FcO.out; have := Lm.out; have := Hm.out; have := Mm.out; omega), (by have := LT.out; have := Lo.out; have := Ho.out; have := Mo.out; have := EcM.out; have := FcM.out; have := EcO.out; have := FcO.out; have := Lm.out; have := Hm.out; have := Mm.out; omega), (by have := LT.out; have := Lo.out; have := Ho.out; have := Mo.out; have := EcM.out; have := FcM.out; have := EcO.out; have := FcO.out; have := Lm.out; have := Hm.out; have := Mm.out; omega), (by have := LT.out; have := Lo.out; have := Ho.out; have := Mo.out; have := EcM.out; have := FcM.out; have := EcO.out; have := FcO.out; have := Lm.out; have := Hm.out; have := Mm.out; omega), (by have := LT.out; have := Lo.out; have := Ho.out; have := Mo.out; have := EcM.out; have := FcM.out; have := EcO.out; have := FcO.out; have := Lm.out; have := Hm.out; have := Mm.out; omega), (by have := LT.out; have := Lo.out; have := Ho.out; have := Mo.out; have := EcM.out; have := FcM.out; have := EcO.out; have := FcO.out; have := Lm.out; have := Hm.out; have := Mm.out; omega)⟩⟩
    · go_simp
      obtain ⟨x1, hx1⟩ : ∃ x1, x0.alloc (.cells #[.int .i64 0, .int .u8 0, .slice none 0 0] 27) = x1 := ⟨_, rfl⟩
      have hb : Below x0.heap.size x0 x1 := by rw [← hx1]; exact (Below.refl _ _).alloc (Nat.le_refl _) _
      have hz : Zb x0.heap.size (.int .i64 0) (.int .u8 0) (.slice none 0 0) x1 := by rw [← hx1]; exact Zb.new _ _ _ _
      have hs : x1.heap.size = x0.heap.size + 1 := by rw [← hx1]; simp
      obtain ⟨cO, hcO⟩ : ∃ cO, x0.heap.size = cO := ⟨_, rfl⟩
      rw [hx1, hcO]
      have NTT : Hid (Tp w a b sa sb sc sd x1) := TT.out.nx hb
      clear TT
      have TT : Hid (Tp w a b sa sb sc sd x1) := NTT.out
      clear NTT
      have ZO : Hid (Zb cO (.int .i64 0) (.int .u8 0) (.slice none 0 0) x1) := by show Zb _ _ _ _ _; rw [← hcO]; exact hz
      have EcO : Hid _ := hcO
      have FcO : Hid _ := hs
      clear hb hz hs hcO hx1
      refine hK.out _ _ TT.out.facts (fun hHeld => ?_)
      clear hK K
      try simp only [Act.put, List.getElem_toArray, List.getElem_cons_zero, List.getElem_cons_succ, List.setIfInBounds_toArray, List.set_cons_zero, List.set_cons_succ]
      refine wpAnyH_ready (rs := [1, 5]) (by kernel_rfl) (by simp) ?_
      refine (AllReadyH.cons rfl (fun K hK => ?_) (AllReadyH.cons rfl (fun K hK => ?_) AllReadyH.nil))
      · go_simp
        refine (HCO.out _ TT.out).mono ?_
        rintro e x2 ⟨⟨oa, oc, rfl, hKO⟩, hb⟩
        have NTT : Hid (Tp w a b sa sb sc sd x2) := TT.out.nx hb
        have NZO : Hid (Zb cO (.int .i64 0) (.int .u8 0) (.slice none 0 0) x2) := ZO.out.nx hb
        clear TT
        have TT : Hid (Tp w a b sa sb sc sd x2) := NTT.out
        clear NTT
        clear ZO
        have ZO : Hid (Zb cO (.int .i64 0) (.int .u8 0) (.slice none 0 0) x2) := NZO.out
        clear NZO
        obtain ⟨lo, hlo⟩ : ∃ lo, x1.heap.size = lo := ⟨_, rfl⟩
        obtain ⟨ho, hho⟩ : ∃ ho, x2.heap.size = ho := ⟨_, rfl⟩
        have KO : Hid (Kx a f oa oc lo ho x2) := by show Kx _ _ _ _ _ _ _; rw [← hlo, ← hho]; exact hKO
        have Lo : Hid _ := hlo
        have Ho : Hid _ := hho
        have Mo : Hid _ := hb.size
        clear hb hKO hlo hho
        go_wp2_with fail
        refine hK.out _ _ TT.out.facts (fun hHeld => ?_)
        clear hK K
        try simp only [Act.put, List.getElem_toArray, List.getElem_cons_zero, List.getElem_cons_succ, List.setIfInBounds_toArray, List.set_cons_zero, List.set_cons_succ]
        refine wpAnyH_ready (rs := [3, 5]) (by kernel_rfl) (by simp) ?_
        refine (AllReadyH.cons rfl (fun K hK => ?_) (AllReadyH.cons rfl (fun K hK => ?_) AllReadyH.nil))
        · go_simp
          refine (HCM.out _ TT.out).mono ?_
          rintro e x3 ⟨⟨ma, mc, rfl, hKM⟩, hb⟩
          have NTT : Hid (Tp w a b sa sb sc sd x3) := TT.out.nx hb
          have NZO : Hid (Zb cO (.int .i64 0) (.int .u8 0) (.slice none 0 0) x3) := ZO.out.nx hb
          have NKO : Hid (Kx a f oa oc lo ho x3) := KO.out.nx hb
          clear TT
          have TT : Hid (Tp w a b sa sb sc sd x3) := NTT.out
          clear NTT
          clear ZO
          have ZO : Hid (Zb cO (.int .i64 0) (.int .u8 0) (.slice none 0 0) x3) := NZO.out
          clear NZO
          clear KO
          have KO : Hid (Kx a f oa oc lo ho x3) := NKO.out
          clear NKO
          obtain ⟨lm, hlm⟩ : ∃ lm, x2.heap.size = lm := ⟨_, rfl⟩
          obtain ⟨hm, hhm⟩ : ∃ hm, x3.heap.size = hm := ⟨_, rfl⟩
          have KM : Hid (Kx b f ma mc lm hm x3) := by show Kx _ _ _ _ _ _ _; rw [← hlm, ← hhm]; exact hKM
          have Lm : Hid _ := hlm
          have Hm : Hid _ := hhm
          have Mm : Hid _ := hb.size
          clear hb hKM hlm hhm
          go_wp2_with fail
          refine hK.out _ _ TT.out.facts (fun hHeld => ?_)
          clear hK K
          try simp only [Act.put, List.getElem_toArray, List.getElem_cons_zero, List.getElem_cons_succ, List.setIfInBounds_toArray, List.set_cons_zero, List.set_cons_succ]
          refine wpAnyH_ready (rs := [5]) (by kernel_rfl) (by simp) ?_
          refine (AllReadyH.cons rfl (fun K hK => ?_) AllReadyH.nil)
          · go_simp
            obtain ⟨x4, hx4⟩ : ∃ x4, x3.alloc (.cells #[.int .i64 0, .int .u8 0, .slice none 0 0] 27) = x4 := ⟨_, rfl⟩
            have hb : Below x3.heap.size x3 x4 := by rw [← hx4]; exact (Below.refl _ _).alloc (Nat.le_refl _) _
            have hz : Zb x3.heap.size (.int .i64 0) (.int .u8 0) (.slice none 0 0) x4 := by rw [← hx4]; exact Zb.new _ _ _ _
            have hs : x4.heap.size = x3.heap.size + 1 := by rw [← hx4]; simp
            obtain ⟨cM, hcM⟩ : ∃ cM, x3.heap.size = cM := ⟨_, rfl⟩
            rw [hx4, hcM]
            have NTT : Hid (Tp w a b sa sb sc sd x4) := TT.out.nx hb
            have NZO : Hid (Zb cO (.int .i64 0) (.int .u8 0) (.slice none 0 0) x4) := ZO.out.nx hb
            have NKO : Hid (Kx a f oa oc lo ho x4) := KO.out.nx hb
            have NKM : Hid (Kx b f ma mc lm hm x4) := KM.out.nx hb
            clear TT
            have TT : Hid (Tp w a b sa sb sc sd x4) := NTT.out
            clear NTT
            clear ZO
            have ZO : Hid (Zb cO (.int .i64 0) (.int .u8 0) (.slice none 0 0) x4) := NZO.out
            clear NZO
            clear KO
            have KO : Hid (Kx a f oa oc lo ho x4) := NKO.out
            clear NKO
            clear KM
            have KM : Hid (Kx b f ma mc lm hm x4) := NKM.out
            clear NKM
            have ZM : Hid (Zb cM (.int .i64 0) (.int .u8 0) (.slice none 0 0) x4) := by show Zb _ _ _ _ _; rw [← hcM]; exact hz
            have EcM : Hid _ := hcM
            have FcM : Hid _ := hs
            clear hb hz hs hcM hx4
            refine hK.out _ _ TT.out.facts (fun hHeld => ?_)
            clear hK K
            try simp only [Act.put, List.getElem_toArray, List.getElem_cons_zero, List.getElem_cons_succ, List.setIfInBounds_toArray, List.set_cons_zero, List.set_cons_succ]
            refine wpAnyH_ready (rs := [6]) (by kernel_rfl) (by simp) ?_
            refine (AllReadyH.cons rfl (fun K hK => ?_) AllReadyH.nil)
            have z0 := ZO.out.z0
            have z1 := ZO.out.z1
            have z2 := ZO.out.z2
            have f0 := ZO.out.fz 0
            have f1 := ZO.out.fz 1
            have f2 := ZO.out.fz 2
            go_simp
            have hsv := Sv.set (X := x4) cO (.int .i64 a.rule) (.int .u8 (a.byte.toNat : Int)) (.slice oa a.kids.length oc)
            have hzz := ZO.out.set (.int .i64 a.rule) (.int .u8 (a.byte.toNat : Int)) (.slice oa a.kids.length oc)
            obtain ⟨x5, hx5⟩ : ∃ x5, ((x4.setCell ⟨cO, 0, none⟩ (.int .i64 a.rule)).setCell ⟨cO, 1, none⟩ (.int .u8 (a.byte.toNat : Int))).setCell ⟨cO, 2, none⟩ (.slice oa a.kids.length oc) = x5 := ⟨_, rfl⟩
            rw [hx5] at hsv hzz
            rw [hx5]
            have NTT : Hid (Tp w a b sa sb sc sd x5) := TT.out.sv hsv (by have := LT.out; have := EcO.out; have := FcO.out; have := Lo.out; have := Ho.out; have := Mo.out; have := Lm.out; have := Hm.out; have := Mm.out; have := EcM.out; have := FcM.out; omega)
            have NKO : Hid (Kx a f oa oc lo ho x5) := KO.out.sv hsv (by have := LT.out; have := EcO.out; have := FcO.out; have := Lo.out; have := Ho.out; have := Mo.out; have := Lm.out; have := Hm.out; have := Mm.out; have := EcM.out; have := FcM.out; omega)
            have NKM : Hid (Kx b f ma mc lm hm x5) := KM.out.sv hsv (by have := LT.out; have := EcO.out; have := FcO.out; have := Lo.out; have := Ho.out; have := Mo.out; have := Lm.out; have := Hm.out; have := Mm.out; have := EcM.out; have := FcM.out; omega)
            have NZM : Hid (Zb cM (.int .i64 0) (.int .u8 0) (.slice none 0 0) x5) := ZM.out.sv hsv (by have := LT.out; have := EcO.out; have := FcO.out; have := Lo.out; have := Ho.out; have := Mo.out; have := Lm.out; have := Hm.out; have := Mm.out; have := EcM.out; have := FcM.out; omega)
            clear TT
            have TT : Hid (Tp w a b sa sb sc sd x5) := NTT.out
            clear NTT
            clear KO
            have KO : Hid (Kx a f oa oc lo ho x5) := NKO.out
            clear NKO
            clear KM
            have KM : Hid (Kx b f ma mc lm hm x5) := NKM.out
            clear NKM
            clear ZM
            have ZM : Hid (Zb cM (.int .i64 0) (.int .u8 0) (.slice none 0 0) x5) := NZM.out
            clear NZM
            clear ZO
            have ZO : Hid (Zb cO (.int .i64 a.rule) (.int .u8 (a.byte.toNat : Int)) (.slice oa a.kids.length oc) x5) := hzz
            clear hsv hzz hx5 z0 z1 z2 f0 f1 f2
            refine hK.out _ _ TT.out.facts (fun hHeld => ?_)
            clear hK K
            try simp only [Act.put, List.getElem_toArray, List.getElem_cons_zero, List.getElem_cons_succ, List.setIfInBounds_toArray, List.set_cons_zero, List.set_cons_succ]
            refine wpAnyH_ready (rs := [7]) (by kernel_rfl) (by simp) ?_
            refine (AllReadyH.cons rfl (fun K hK => ?_) AllReadyH.nil)
            have z0 := ZM.out.z0
            have z1 := ZM.out.z1
            have z2 := ZM.out.z2
            have f0 := ZM.out.fz 0
            have f1 := ZM.out.fz 1
            have f2 := ZM.out.fz 2
            go_simp
            have hsv := Sv.set (X := x5) cM (.int .i64 b.rule) (.int .u8 (b.byte.toNat : Int)) (.slice ma b.kids.length mc)
            have hzz := ZM.out.set (.int .i64 b.rule) (.int .u8 (b.byte.toNat : Int)) (.slice ma b.kids.length mc)
            obtain ⟨x6, hx6⟩ : ∃ x6, ((x5.setCell ⟨cM, 0, none⟩ (.int .i64 b.rule)).setCell ⟨cM, 1, none⟩ (.int .u8 (b.byte.toNat : Int))).setCell ⟨cM, 2, none⟩ (.slice ma b.kids.length mc) = x6 := ⟨_, rfl⟩
            rw [hx6] at hsv hzz
            rw [hx6]
            have NTT : Hid (Tp w a b sa sb sc sd x6) := TT.out.sv hsv (by have := LT.out; have := EcO.out; have := FcO.out; have := Lo.out; have := Ho.out; have := Mo.out; have := Lm.out; have := Hm.out; have := Mm.out; have := EcM.out; have := FcM.out; omega)
            have NZO : Hid (Zb cO (.int .i64 a.rule) (.int .u8 (a.byte.toNat : Int)) (.slice oa a.kids.length oc) x6) := ZO.out.sv hsv (by have := LT.out; have := EcO.out; have := FcO.out; have := Lo.out; have := Ho.out; have := Mo.out; have := Lm.out; have := Hm.out; have := Mm.out; have := EcM.out; have := FcM.out; omega)
            have NKO : Hid (Kx a f oa oc lo ho x6) := KO.out.sv hsv (by have := LT.out; have := EcO.out; have := FcO.out; have := Lo.out; have := Ho.out; have := Mo.out; have := Lm.out; have := Hm.out; have := Mm.out; have := EcM.out; have := FcM.out; omega)
            have NKM : Hid (Kx b f ma mc lm hm x6) := KM.out.sv hsv (by have := LT.out; have := EcO.out; have := FcO.out; have := Lo.out; have := Ho.out; have := Mo.out; have := Lm.out; have := Hm.out; have := Mm.out; have := EcM.out; have := FcM.out; omega)
            clear TT
            have TT : Hid (Tp w a b sa sb sc sd x6) := NTT.out
            clear NTT
            clear ZO
            have ZO : Hid (Zb cO (.int .i64 a.rule) (.int .u8 (a.byte.toNat : Int)) (.slice oa a.kids.length oc) x6) := NZO.out
            clear NZO
            clear KO
            have KO : Hid (Kx a f oa oc lo ho x6) := NKO.out
            clear NKO
            clear KM
            have KM : Hid (Kx b f ma mc lm hm x6) := NKM.out
            clear NKM
            clear ZM
            have ZM : Hid (Zb cM (.int .i64 b.rule) (.int .u8 (b.byte.toNat : Int)) (.slice ma b.kids.length mc) x6) := hzz
            clear hsv hzz hx6 z0 z1 z2 f0 f1 f2
            refine hK.out _ _ TT.out.facts (fun hHeld => ?_)
            clear hK K
            try simp only [Act.put, List.getElem_toArray, List.getElem_cons_zero, List.getElem_cons_succ, List.setIfInBounds_toArray, List.set_cons_zero, List.set_cons_succ]
            refine wpAnyH_done (by kernel_rfl) ?_ _
            clear hHeld
            go_wp2
            go_meet
            exact ⟨cO, cM, oa, oc, ma, mc, lo, ho, lm, hm, rfl, rfl, ⟨TT.out, KO.out, KM.out, ZO.out, ZM.out, (by have := LT.out; have := EcO.out; have := FcO.out; have := Lo.out; have := Ho.out; have := Mo.out; have := Lm.out; have := Hm.out; have := Mm.out; have := EcM.out; have := FcM.out; omega), (by have := LT.out; have := EcO.out; have := FcO.out; have := Lo.out; have := Ho.out; have := Mo.out; have := Lm.out; have := Hm.out; have := Mm.out; have := EcM.out; have := FcM.out; omega), (by have := LT.out; have := EcO.out; have := FcO.out; have := Lo.out; have := Ho.out; have := Mo.out; have := Lm.out; have := Hm.out; have := Mm.out; have := EcM.out; have := FcM.out; omega), (by have := LT.out; have := EcO.out; have := FcO.out; have := Lo.out; have := Ho.out; have := Mo.out; have := Lm.out; have := Hm.out; have := Mm.out; have := EcM.out; have := FcM.out; omega), (by have := LT.out; have := EcO.out; have := FcO.out; have := Lo.out; have := Ho.out; have := Mo.out; have := Lm.out; have := Hm.out; have := Mm.out; have := EcM.out; have := FcM.out; omega), (by have := LT.out; have := EcO.out; have := FcO.out; have := Lo.out; have := Ho.out; have := Mo.out; have := Lm.out; have := Hm.out; have := Mm.out; have := EcM.out; have := FcM.out; omega), (by have := LT.out; have := EcO.out; have := FcO.out; have := Lo.out; have := Ho.out; have := Mo.out; have := Lm.out; have := Hm.out; have := Mm.out; have := EcM.out; have := FcM.out; omega)⟩⟩
        · go_simp
          obtain ⟨x3, hx3⟩ : ∃ x3, x2.alloc (.cells #[.int .i64 0, .int .u8 0, .slice none 0 0] 27) = x3 := ⟨_, rfl⟩
          have hb : Below x2.heap.size x2 x3 := by rw [← hx3]; exact (Below.refl _ _).alloc (Nat.le_refl _) _
          have hz : Zb x2.heap.size (.int .i64 0) (.int .u8 0) (.slice none 0 0) x3 := by rw [← hx3]; exact Zb.new _ _ _ _
          have hs : x3.heap.size = x2.heap.size + 1 := by rw [← hx3]; simp
          obtain ⟨cM, hcM⟩ : ∃ cM, x2.heap.size = cM := ⟨_, rfl⟩
          rw [hx3, hcM]
          have NTT : Hid (Tp w a b sa sb sc sd x3) := TT.out.nx hb
          have NZO : Hid (Zb cO (.int .i64 0) (.int .u8 0) (.slice none 0 0) x3) := ZO.out.nx hb
          have NKO : Hid (Kx a f oa oc lo ho x3) := KO.out.nx hb
          clear TT
          have TT : Hid (Tp w a b sa sb sc sd x3) := NTT.out
          clear NTT
          clear ZO
          have ZO : Hid (Zb cO (.int .i64 0) (.int .u8 0) (.slice none 0 0) x3) := NZO.out
          clear NZO
          clear KO
          have KO : Hid (Kx a f oa oc lo ho x3) := NKO.out
          clear NKO
          have ZM : Hid (Zb cM (.int .i64 0) (.int .u8 0) (.slice none 0 0) x3) := by show Zb _ _ _ _ _; rw [← hcM]; exact hz
          have EcM : Hid _ := hcM
          have FcM : Hid _ := hs
          clear hb hz hs hcM hx3
          refine hK.out _ _ TT.out.facts (fun hHeld => ?_)
          clear hK K
          try simp only [Act.put, List.getElem_toArray, List.getElem_cons_zero, List.getElem_cons_succ, List.setIfInBounds_toArray, List.set_cons_zero, List.set_cons_succ]
          refine wpAnyH_ready (rs := [3]) (by kernel_rfl) (by simp) ?_
          refine (AllReadyH.cons rfl (fun K hK => ?_) AllReadyH.nil)
          · go_simp
            refine (HCM.out _ TT.out).mono ?_
            rintro e x4 ⟨⟨ma, mc, rfl, hKM⟩, hb⟩
            have NTT : Hid (Tp w a b sa sb sc sd x4) := TT.out.nx hb
            have NZO : Hid (Zb cO (.int .i64 0) (.int .u8 0) (.slice none 0 0) x4) := ZO.out.nx hb
            have NKO : Hid (Kx a f oa oc lo ho x4) := KO.out.nx hb
            have NZM : Hid (Zb cM (.int .i64 0) (.int .u8 0) (.slice none 0 0) x4) := ZM.out.nx hb
            clear TT
            have TT : Hid (Tp w a b sa sb sc sd x4) := NTT.out
            clear NTT
            clear ZO
            have ZO : Hid (Zb cO (.int .i64 0) (.int .u8 0) (.slice none 0 0) x4) := NZO.out
            clear NZO
            clear KO
            have KO : Hid (Kx a f oa oc lo ho x4) := NKO.out
            clear NKO
            clear ZM
            have ZM : Hid (Zb cM (.int .i64 0) (.int .u8 0) (.slice none 0 0) x4) := NZM.out
            clear NZM
            obtain ⟨lm, hlm⟩ : ∃ lm, x3.heap.size = lm := ⟨_, rfl⟩
            obtain ⟨hm, hhm⟩ : ∃ hm, x4.heap.size = hm := ⟨_, rfl⟩
            have KM : Hid (Kx b f ma mc lm hm x4) := by show Kx _ _ _ _ _ _ _; rw [← hlm, ← hhm]; exact hKM
            have Lm : Hid _ := hlm
            have Hm : Hid _ := hhm
            have Mm : Hid _ := hb.size
            clear hb hKM hlm hhm
            go_wp2_with fail
            refine hK.out _ _ TT.out.facts (fun hHeld => ?_)
            clear hK K
            try simp only [Act.put, List.getElem_toArray, List.getElem_cons_zero, List.getElem_cons_succ, List.setIfInBounds_toArray, List.set_cons_zero, List.set_cons_succ]
            refine wpAnyH_ready (rs := [6]) (by kernel_rfl) (by simp) ?_
            refine (AllReadyH.cons rfl (fun K hK => ?_) AllReadyH.nil)
            have z0 := ZO.out.z0
            have z1 := ZO.out.z1
            have z2 := ZO.out.z2
            have f0 := ZO.out.fz 0
            have f1 := ZO.out.fz 1
            have f2 := ZO.out.fz 2
            go_simp
            have hsv := Sv.set (X := x4) cO (.int .i64 a.rule) (.int .u8 (a.byte.toNat : Int)) (.slice oa a.kids.length oc)
            have hzz := ZO.out.set (.int .i64 a.rule) (.int .u8 (a.byte.toNat : Int)) (.slice oa a.kids.length oc)
            obtain ⟨x5, hx5⟩ : ∃ x5, ((x4.setCell ⟨cO, 0, none⟩ (.int .i64 a.rule)).setCell ⟨cO, 1, none⟩ (.int .u8 (a.byte.toNat : Int))).setCell ⟨cO, 2, none⟩ (.slice oa a.kids.length oc) = x5 := ⟨_, rfl⟩
            rw [hx5] at hsv hzz
            rw [hx5]
            have NTT : Hid (Tp w a b sa sb sc sd x5) := TT.out.sv hsv (by have := LT.out; have := EcO.out; have := FcO.out; have := Lo.out; have := Ho.out; have := Mo.out; have := EcM.out; have := FcM.out; have := Lm.out; have := Hm.out; have := Mm.out; omega)
            have NKO : Hid (Kx a f oa oc lo ho x5) := KO.out.sv hsv (by have := LT.out; have := EcO.out; have := FcO.out; have := Lo.out; have := Ho.out; have := Mo.out; have := EcM.out; have := FcM.out; have := Lm.out; have := Hm.out; have := Mm.out; omega)
            have NZM : Hid (Zb cM (.int .i64 0) (.int .u8 0) (.slice none 0 0) x5) := ZM.out.sv hsv (by have := LT.out; have := EcO.out; have := FcO.out; have := Lo.out; have := Ho.out; have := Mo.out; have := EcM.out; have := FcM.out; have := Lm.out; have := Hm.out; have := Mm.out; omega)
            have NKM : Hid (Kx b f ma mc lm hm x5) := KM.out.sv hsv (by have := LT.out; have := EcO.out; have := FcO.out; have := Lo.out; have := Ho.out; have := Mo.out; have := EcM.out; have := FcM.out; have := Lm.out; have := Hm.out; have := Mm.out; omega)
            clear TT
            have TT : Hid (Tp w a b sa sb sc sd x5) := NTT.out
            clear NTT
            clear KO
            have KO : Hid (Kx a f oa oc lo ho x5) := NKO.out
            clear NKO
            clear ZM
            have ZM : Hid (Zb cM (.int .i64 0) (.int .u8 0) (.slice none 0 0) x5) := NZM.out
            clear NZM
            clear KM
            have KM : Hid (Kx b f ma mc lm hm x5) := NKM.out
            clear NKM
            clear ZO
            have ZO : Hid (Zb cO (.int .i64 a.rule) (.int .u8 (a.byte.toNat : Int)) (.slice oa a.kids.length oc) x5) := hzz
            clear hsv hzz hx5 z0 z1 z2 f0 f1 f2
            refine hK.out _ _ TT.out.facts (fun hHeld => ?_)
            clear hK K
            try simp only [Act.put, List.getElem_toArray, List.getElem_cons_zero, List.getElem_cons_succ, List.setIfInBounds_toArray, List.set_cons_zero, List.set_cons_succ]
            refine wpAnyH_ready (rs := [7]) (by kernel_rfl) (by simp) ?_
            refine (AllReadyH.cons rfl (fun K hK => ?_) AllReadyH.nil)
            have z0 := ZM.out.z0
            have z1 := ZM.out.z1
            have z2 := ZM.out.z2
            have f0 := ZM.out.fz 0
            have f1 := ZM.out.fz 1
            have f2 := ZM.out.fz 2
            go_simp
            have hsv := Sv.set (X := x5) cM (.int .i64 b.rule) (.int .u8 (b.byte.toNat : Int)) (.slice ma b.kids.length mc)
            have hzz := ZM.out.set (.int .i64 b.rule) (.int .u8 (b.byte.toNat : Int)) (.slice ma b.kids.length mc)
            obtain ⟨x6, hx6⟩ : ∃ x6, ((x5.setCell ⟨cM, 0, none⟩ (.int .i64 b.rule)).setCell ⟨cM, 1, none⟩ (.int .u8 (b.byte.toNat : Int))).setCell ⟨cM, 2, none⟩ (.slice ma b.kids.length mc) = x6 := ⟨_, rfl⟩
            rw [hx6] at hsv hzz
            rw [hx6]
            have NTT : Hid (Tp w a b sa sb sc sd x6) := TT.out.sv hsv (by have := LT.out; have := EcO.out; have := FcO.out; have := Lo.out; have := Ho.out; have := Mo.out; have := EcM.out; have := FcM.out; have := Lm.out; have := Hm.out; have := Mm.out; omega)
            have NZO : Hid (Zb cO (.int .i64 a.rule) (.int .u8 (a.byte.toNat : Int)) (.slice oa a.kids.length oc) x6) := ZO.out.sv hsv (by have := LT.out; have := EcO.out; have := FcO.out; have := Lo.out; have := Ho.out; have := Mo.out; have := EcM.out; have := FcM.out; have := Lm.out; have := Hm.out; have := Mm.out; omega)
            have NKO : Hid (Kx a f oa oc lo ho x6) := KO.out.sv hsv (by have := LT.out; have := EcO.out; have := FcO.out; have := Lo.out; have := Ho.out; have := Mo.out; have := EcM.out; have := FcM.out; have := Lm.out; have := Hm.out; have := Mm.out; omega)
            have NKM : Hid (Kx b f ma mc lm hm x6) := KM.out.sv hsv (by have := LT.out; have := EcO.out; have := FcO.out; have := Lo.out; have := Ho.out; have := Mo.out; have := EcM.out; have := FcM.out; have := Lm.out; have := Hm.out; have := Mm.out; omega)
            clear TT
            have TT : Hid (Tp w a b sa sb sc sd x6) := NTT.out
            clear NTT
            clear ZO
            have ZO : Hid (Zb cO (.int .i64 a.rule) (.int .u8 (a.byte.toNat : Int)) (.slice oa a.kids.length oc) x6) := NZO.out
            clear NZO
            clear KO
            have KO : Hid (Kx a f oa oc lo ho x6) := NKO.out
            clear NKO
            clear KM
            have KM : Hid (Kx b f ma mc lm hm x6) := NKM.out
            clear NKM
            clear ZM
            have ZM : Hid (Zb cM (.int .i64 b.rule) (.int .u8 (b.byte.toNat : Int)) (.slice ma b.kids.length mc) x6) := hzz
            clear hsv hzz hx6 z0 z1 z2 f0 f1 f2
            refine hK.out _ _ TT.out.facts (fun hHeld => ?_)
            clear hK K
            try simp only [Act.put, List.getElem_toArray, List.getElem_cons_zero, List.getElem_cons_succ, List.setIfInBounds_toArray, List.set_cons_zero, List.set_cons_succ]
            refine wpAnyH_done (by kernel_rfl) ?_ _
            clear hHeld
            go_wp2
            go_meet
            exact ⟨cO, cM, oa, oc, ma, mc, lo, ho, lm, hm, rfl, rfl, ⟨TT.out, KO.out, KM.out, ZO.out, ZM.out, (by have := LT.out; have := EcO.out; have := FcO.out; have := Lo.out; have := Ho.out; have := Mo.out; have := EcM.out; have := FcM.out; have := Lm.out; have := Hm.out; have := Mm.out; omega), (by have := LT.out; have := EcO.out; have := FcO.out; have := Lo.out; have := Ho.out; have := Mo.out; have := EcM.out; have := FcM.out; have := Lm.out; have := Hm.out; have := Mm.out; omega), (by have := LT.out; have := EcO.out; have := FcO.out; have := Lo.out; have := Ho.out; have := Mo.out; have := EcM.out; have := FcM.out; have := Lm.out; have := Hm.out; have := Mm.out; omega), (by have := LT.out; have := EcO.out; have := FcO.out; have := Lo.out; have := Ho.out; have := Mo.out; have := EcM.out; have := FcM.out; have := Lm.out; have := Hm.out; have := Mm.out; omega), (by have := LT.out; have := EcO.out; have := FcO.out; have := Lo.out; have := Ho.out; have := Mo.out; have := EcM.out; have := FcM.out; have := Lm.out; have := Hm.out; have := Mm.out; omega), (by have := LT.out; have := EcO.out; have := FcO.out; have := Lo.out; have := Ho.out; have := Mo.out; have := EcM.out; have := FcM.out; have := Lm.out; have := Hm.out; have := Mm.out; omega), (by have := LT.out; have := EcO.out; have := FcO.out; have := Lo.out; have := Ho.out; have := Mo.out; have := EcM.out; have := FcM.out; have := Lm.out; have := Hm.out; have := Mm.out; omega)⟩⟩
      · go_simp
        obtain ⟨x2, hx2⟩ : ∃ x2, x1.alloc (.cells #[.int .i64 0, .int .u8 0, .slice none 0 0] 27) = x2 := ⟨_, rfl⟩
        have hb : Below x1.heap.size x1 x2 := by rw [← hx2]; exact (Below.refl _ _).alloc (Nat.le_refl _) _
        have hz : Zb x1.heap.size (.int .i64 0) (.int .u8 0) (.slice none 0 0) x2 := by rw [← hx2]; exact Zb.new _ _ _ _
        have hs : x2.heap.size = x1.heap.size + 1 := by rw [← hx2]; simp
        obtain ⟨cM, hcM⟩ : ∃ cM, x1.heap.size = cM := ⟨_, rfl⟩
        rw [hx2, hcM]
        have NTT : Hid (Tp w a b sa sb sc sd x2) := TT.out.nx hb
        have NZO : Hid (Zb cO (.int .i64 0) (.int .u8 0) (.slice none 0 0) x2) := ZO.out.nx hb
        clear TT
        have TT : Hid (Tp w a b sa sb sc sd x2) := NTT.out
        clear NTT
        clear ZO
        have ZO : Hid (Zb cO (.int .i64 0) (.int .u8 0) (.slice none 0 0) x2) := NZO.out
        clear NZO
        have ZM : Hid (Zb cM (.int .i64 0) (.int .u8 0) (.slice none 0 0) x2) := by show Zb _ _ _ _ _; rw [← hcM]; exact hz
        have EcM : Hid _ := hcM
        have FcM : Hid _ := hs
        clear hb hz hs hcM hx2
        refine hK.out _ _ TT.out.facts (fun hHeld => ?_)
        clear hK K
        try simp only [Act.put, List.getElem_toArray, List.getElem_cons_zero, List.getElem_cons_succ, List.setIfInBounds_toArray, List.set_cons_zero, List.set_cons_succ]
        refine wpAnyH_ready (rs := [1]) (by kernel_rfl) (by simp) ?_
        refine (AllReadyH.cons rfl (fun K hK => ?_) AllReadyH.nil)
        · go_simp
          refine (HCO.out _ TT.out).mono ?_
          rintro e x3 ⟨⟨oa, oc, rfl, hKO⟩, hb⟩
          have NTT : Hid (Tp w a b sa sb sc sd x3) := TT.out.nx hb
          have NZO : Hid (Zb cO (.int .i64 0) (.int .u8 0) (.slice none 0 0) x3) := ZO.out.nx hb
          have NZM : Hid (Zb cM (.int .i64 0) (.int .u8 0) (.slice none 0 0) x3) := ZM.out.nx hb
          clear TT
          have TT : Hid (Tp w a b sa sb sc sd x3) := NTT.out
          clear NTT
          clear ZO
          have ZO : Hid (Zb cO (.int .i64 0) (.int .u8 0) (.slice none 0 0) x3) := NZO.out
          clear NZO
          clear ZM
          have ZM : Hid (Zb cM (.int .i64 0) (.int .u8 0) (.slice none 0 0) x3) := NZM.out
          clear NZM
          obtain ⟨lo, hlo⟩ : ∃ lo, x2.heap.size = lo := ⟨_, rfl⟩
          obtain ⟨ho, hho⟩ : ∃ ho, x3.heap.size = ho := ⟨_, rfl⟩
          have KO : Hid (Kx a f oa oc lo ho x3) := by show Kx _ _ _ _ _ _ _; rw [← hlo, ← hho]; exact hKO
          have Lo : Hid _ := hlo
          have Ho : Hid _ := hho
          have Mo : Hid _ := hb.size
          clear hb hKO hlo hho
          go_wp2_with fail
          refine hK.out _ _ TT.out.facts (fun hHeld => ?_)
          clear hK K
          try simp only [Act.put, List.getElem_toArray, List.getElem_cons_zero, List.getElem_cons_succ, List.setIfInBounds_toArray, List.set_cons_zero, List.set_cons_succ]
          refine wpAnyH_ready (rs := [3]) (by kernel_rfl) (by simp) ?_
          refine (AllReadyH.cons rfl (fun K hK => ?_) AllReadyH.nil)
          · go_simp
            refine (HCM.out _ TT.out).mono ?_
            rintro e x4 ⟨⟨ma, mc, rfl, hKM⟩, hb⟩
            have NTT : Hid (Tp w a b sa sb sc sd x4) := TT.out.nx hb
            have NZO : Hid (Zb cO (.int .i64 0) (.int .u8 0) (.slice none 0 0) x4) := ZO.out.nx hb
            have NZM : Hid (Zb cM (.int .i64 0) (.int .u8 0) (.slice none 0 0) x4) := ZM.out.nx hb
            have NKO : Hid (Kx a f oa oc lo ho x4) := KO.out.nx hb
            clear TT
            have TT : Hid (Tp w a b sa sb sc sd x4) := NTT.out
            clear NTT
            clear ZO
            have ZO : Hid (Zb cO (.int .i64 0) (.int .u8 0) (.slice none 0 0) x4) := NZO.out
            clear NZO
            clear ZM
            have ZM : Hid (Zb cM (.int .i64 0) (.int .u8 0) (.slice none 0 0) x4) := NZM.out
            clear NZM
            clear KO
            have KO : Hid (Kx a f oa oc lo ho x4) := NKO.out
            clear NKO
            obtain ⟨lm, hlm⟩ : ∃ lm, x3.heap.size = lm := ⟨_, rfl⟩
            obtain ⟨hm, hhm⟩ : ∃ hm, x4.heap.size = hm := ⟨_, rfl⟩
            have KM : Hid (Kx b f ma mc lm hm x4) := by show Kx _ _ _ _ _ _ _; rw [← hlm, ← hhm]; exact hKM
            have Lm : Hid _ := hlm
            have Hm : Hid _ := hhm
            have Mm : Hid _ := hb.size
            clear hb hKM hlm hhm
            go_wp2_with fail
            refine hK.out _ _ TT.out.facts (fun hHeld => ?_)
            clear hK K
            try simp only [Act.put, List.getElem_toArray, List.getElem_cons_zero, List.getElem_cons_succ, List.setIfInBounds_toArray, List.set_cons_zero, List.set_cons_succ]
            refine wpAnyH_ready (rs := [6]) (by kernel_rfl) (by simp) ?_
            refine (AllReadyH.cons rfl (fun K hK => ?_) AllReadyH.nil)
            have z0 := ZO.out.z0
            have z1 := ZO.out.z1
            have z2 := ZO.out.z2
            have f0 := ZO.out.fz 0
            have f1 := ZO.out.fz 1
            have f2 := ZO.out.fz 2
            go_simp
            have hsv := Sv.set (X := x4) cO (.int .i64 a.rule) (.int .u8 (a.byte.toNat : Int)) (.slice oa a.kids.length oc)
            have hzz := ZO.out.set (.int .i64 a.rule) (.int .u8 (a.byte.toNat : Int)) (.slice oa a.kids.length oc)
            obtain ⟨x5, hx5⟩ : ∃ x5, ((x4.setCell ⟨cO, 0, none⟩ (.int .i64 a.rule)).setCell ⟨cO, 1, none⟩ (.int .u8 (a.byte.toNat : Int))).setCell ⟨cO, 2, none⟩ (.slice oa a.kids.length oc) = x5 := ⟨_, rfl⟩
            rw [hx5] at hsv hzz
            rw [hx5]
            have NTT : Hid (Tp w a b sa sb sc sd x5) := TT.out.sv hsv (by have := LT.out; have := EcO.out; have := FcO.out; have := EcM.out; have := FcM.out; have := Lo.out; have := Ho.out; have := Mo.out; have := Lm.out; have := Hm.out; have := Mm.out; omega)
            have NZM : Hid (Zb cM (.int .i64 0) (.int .u8 0) (.slice none 0 0) x5) := ZM.out.sv hsv (by have := LT.out; have := EcO.out; have := FcO.out; have := EcM.out; have := FcM.out; have := Lo.out; have := Ho.out; have := Mo.out; have := Lm.out; have := Hm.out; have := Mm.out; omega)
            have NKO : Hid (Kx a f oa oc lo ho x5) := KO.out.sv hsv (by have := LT.out; have := EcO.out; have := FcO.out; have := EcM.out; have := FcM.out; have := Lo.out; have := Ho.out; have := Mo.out; have := Lm.out; have := Hm.out; have := Mm.out; omega)
            have NKM : Hid (Kx b f ma mc lm hm x5) := KM.out.sv hsv (by have := LT.out; have := EcO.out; have := FcO.out; have := EcM.out; have := FcM.out; have := Lo.out; have := Ho.out; have := Mo.out; have := Lm.out; have := Hm.out; have := Mm.out; omega)
            clear TT
            have TT : Hid (Tp w a b sa sb sc sd x5) := NTT.out
            clear NTT
            clear ZM
            have ZM : Hid (Zb cM (.int .i64 0) (.int .u8 0) (.slice none 0 0) x5) := NZM.out
            clear NZM
            clear KO
            have KO : Hid (Kx a f oa oc lo ho x5) := NKO.out
            clear NKO
            clear KM
            have KM : Hid (Kx b f ma mc lm hm x5) := NKM.out
            clear NKM
            clear ZO
            have ZO : Hid (Zb cO (.int .i64 a.rule) (.int .u8 (a.byte.toNat : Int)) (.slice oa a.kids.length oc) x5) := hzz
            clear hsv hzz hx5 z0 z1 z2 f0 f1 f2
            refine hK.out _ _ TT.out.facts (fun hHeld => ?_)
            clear hK K
            try simp only [Act.put, List.getElem_toArray, List.getElem_cons_zero, List.getElem_cons_succ, List.setIfInBounds_toArray, List.set_cons_zero, List.set_cons_succ]
            refine wpAnyH_ready (rs := [7]) (by kernel_rfl) (by simp) ?_
            refine (AllReadyH.cons rfl (fun K hK => ?_) AllReadyH.nil)
            have z0 := ZM.out.z0
            have z1 := ZM.out.z1
            have z2 := ZM.out.z2
            have f0 := ZM.out.fz 0
            have f1 := ZM.out.fz 1
            have f2 := ZM.out.fz 2
            go_simp
            have hsv := Sv.set (X := x5) cM (.int .i64 b.rule) (.int .u8 (b.byte.toNat : Int)) (.slice ma b.kids.length mc)
            have hzz := ZM.out.set (.int .i64 b.rule) (.int .u8 (b.byte.toNat : Int)) (.slice ma b.kids.length mc)
            obtain ⟨x6, hx6⟩ : ∃ x6, ((x5.setCell ⟨cM, 0, none⟩ (.int .i64 b.rule)).setCell ⟨cM, 1, none⟩ (.int .u8 (b.byte.toNat : Int))).setCell ⟨cM, 2, none⟩ (.slice ma b.kids.length mc) = x6 := ⟨_, rfl⟩
            rw [hx6] at hsv hzz
            rw [hx6]
            have NTT : Hid (Tp w a b sa sb sc sd x6) := TT.out.sv hsv (by have := LT.out; have := EcO.out; have := FcO.out; have := EcM.out; have := FcM.out; have := Lo.out; have := Ho.out; have := Mo.out; have := Lm.out; have := Hm.out; have := Mm.out; omega)
            have NZO : Hid (Zb cO (.int .i64 a.rule) (.int .u8 (a.byte.toNat : Int)) (.slice oa a.kids.length oc) x6) := ZO.out.sv hsv (by have := LT.out; have := EcO.out; have := FcO.out; have := EcM.out; have := FcM.out; have := Lo.out; have := Ho.out; have := Mo.out; have := Lm.out; have := Hm.out; have := Mm.out; omega)
            have NKO : Hid (Kx a f oa oc lo ho x6) := KO.out.sv hsv (by have := LT.out; have := EcO.out; have := FcO.out; have := EcM.out; have := FcM.out; have := Lo.out; have := Ho.out; have := Mo.out; have := Lm.out; have := Hm.out; have := Mm.out; omega)
            have NKM : Hid (Kx b f ma mc lm hm x6) := KM.out.sv hsv (by have := LT.out; have := EcO.out; have := FcO.out; have := EcM.out; have := FcM.out; have := Lo.out; have := Ho.out; have := Mo.out; have := Lm.out; have := Hm.out; have := Mm.out; omega)
            clear TT
            have TT : Hid (Tp w a b sa sb sc sd x6) := NTT.out
            clear NTT
            clear ZO
            have ZO : Hid (Zb cO (.int .i64 a.rule) (.int .u8 (a.byte.toNat : Int)) (.slice oa a.kids.length oc) x6) := NZO.out
            clear NZO
            clear KO
            have KO : Hid (Kx a f oa oc lo ho x6) := NKO.out
            clear NKO
            clear KM
            have KM : Hid (Kx b f ma mc lm hm x6) := NKM.out
            clear NKM
            clear ZM
            have ZM : Hid (Zb cM (.int .i64 b.rule) (.int .u8 (b.byte.toNat : Int)) (.slice ma b.kids.length mc) x6) := hzz
            clear hsv hzz hx6 z0 z1 z2 f0 f1 f2
            refine hK.out _ _ TT.out.facts (fun hHeld => ?_)
            clear hK K
            try simp only [Act.put, List.getElem_toArray, List.getElem_cons_zero, List.getElem_cons_succ, List.setIfInBounds_toArray, List.set_cons_zero, List.set_cons_succ]
            refine wpAnyH_done (by kernel_rfl) ?_ _
            clear hHeld
            go_wp2
            go_meet
            exact ⟨cO, cM, oa, oc, ma, mc, lo, ho, lm, hm, rfl, rfl, ⟨TT.out, KO.out, KM.out, ZO.out, ZM.out, (by have := LT.out; have := EcO.out; have := FcO.out; have := EcM.out; have := FcM.out; have := Lo.out; have := Ho.out; have := Mo.out; have := Lm.out; have := Hm.out; have := Mm.out; omega), (by have := LT.out; have := EcO.out; have := FcO.out; have := EcM.out; have := FcM.out; have := Lo.out; have := Ho.out; have := Mo.out; have := Lm.out; have := Hm.out; have := Mm.out; omega), (by have := LT.out; have := EcO.out; have := FcO.out; have := EcM.out; have := FcM.out; have := Lo.out; have := Ho.out; have := Mo.out; have := Lm.out; have := Hm.out; have := Mm.out; omega), (by have := LT.out; have := EcO.out; have := FcO.out; have := EcM.out; have := FcM.out; have := Lo.out; have := Ho.out; have := Mo.out; have := Lm.out; have := Hm.out; have := Mm.out; omega), (by have := LT.out; have := EcO.out; have := FcO.out; have := EcM.out; have := FcM.out; have := Lo.out; have := Ho.out; have := Mo.out; have := Lm.out; have := Hm.out; have := Mm.out; omega), (by have := LT.out; have := EcO.out; have := FcO.out; have := EcM.out; have := FcM.out; have := Lo.out; have := Ho.out; have := Mo.out; have := Lm.out; have := Hm.out; have := Mm.out; omega), (by have := LT.out; have := EcO.out; have := FcO.out; have := EcM.out; have := FcM.out; have := Lo.out; have := Ho.out; have := Mo.out; have := Lm.out; have := Hm.out; have := Mm.out; omega)⟩⟩
    · go_simp
      obtain ⟨x1, hx1⟩ : ∃ x1, x0.alloc (.cells #[.int .i64 0, .int .u8 0, .slice none 0 0] 27) = x1 := ⟨_, rfl⟩
      have hb : Below x0.heap.size x0 x1 := by rw [← hx1]; exact (Below.refl _ _).alloc (Nat.le_refl _) _
      have hz : Zb x0.heap.size (.int .i64 0) (.int .u8 0) (.slice none 0 0) x1 := by rw [← hx1]; exact Zb.new _ _ _ _
      have hs : x1.heap.size = x0.heap.size + 1 := by rw [← hx1]; simp
      obtain ⟨cM, hcM⟩ : ∃ cM, x0.heap.size = cM := ⟨_, rfl⟩
      rw [hx1, hcM]
      have NTT : Hid (Tp w a b sa sb sc sd x1) := TT.out.nx hb
      clear TT
      have TT : Hid (Tp w a b sa sb sc sd x1) := NTT.out
      clear NTT
      have ZM : Hid (Zb cM (.int .i64 0) (.int .u8 0) (.slice none 0 0) x1) := by show Zb _ _ _ _ _; rw [← hcM]; exact hz
      have EcM : Hid _ := hcM
      have FcM : Hid _ := hs
      clear hb hz hs hcM hx1
      refine hK.out _ _ TT.out.facts (fun hHeld => ?_)
      clear hK K
      try simp only [Act.put, List.getElem_toArray, List.getElem_cons_zero, List.getElem_cons_succ, List.setIfInBounds_toArray, List.set_cons_zero, List.set_cons_succ]
      refine wpAnyH_ready (rs := [1, 4]) (by kernel_rfl) (by simp) ?_
      refine (AllReadyH.cons rfl (fun K hK => ?_) (AllReadyH.cons rfl (fun K hK => ?_) AllReadyH.nil))
      · go_simp
        refine (HCO.out _ TT.out).mono ?_
        rintro e x2 ⟨⟨oa, oc, rfl, hKO⟩, hb⟩
        have NTT : Hid (Tp w a b sa sb sc sd x2) := TT.out.nx hb
        have NZM : Hid (Zb cM (.int .i64 0) (.int .u8 0) (.slice none 0 0) x2) := ZM.out.nx hb
        clear TT
        have TT : Hid (Tp w a b sa sb sc sd x2) := NTT.out
        clear NTT
        clear ZM
        have ZM : Hid (Zb cM (.int .i64 0) (.int .u8 0) (.slice none 0 0) x2) := NZM.out
        clear NZM
        obtain ⟨lo, hlo⟩ : ∃ lo, x1.heap.size = lo := ⟨_, rfl⟩
        obtain ⟨ho, hho⟩ : ∃ ho, x2.heap.size = ho := ⟨_, rfl⟩
        have KO : Hid (Kx a f oa oc lo ho x2) := by show Kx _ _ _ _ _ _ _; rw [← hlo, ← hho]; exact hKO
        have Lo : Hid _ := hlo
        have Ho : Hid _ := hho
        have Mo : Hid _ := hb.size
        clear hb hKO hlo hho
        go_wp2_with fail
        refine hK.out _ _ TT.out.facts (fun hHeld => ?_)
        clear hK K
        try simp only [Act.put, List.getElem_toArray, List.getElem_cons_zero, List.getElem_cons_succ, List.setIfInBounds_toArray, List.set_cons_zero, List.set_cons_succ]
        refine wpAnyH_ready (rs := [3, 4]) (by kernel_rfl) (by simp) ?_
        refine (AllReadyH.cons rfl (fun K hK => ?_) (AllReadyH.cons rfl (fun K hK => ?_) AllReadyH.nil))
        · go_simp
          refine (HCM.out _ TT.out).mono ?_
          rintro e x3 ⟨⟨ma, mc, rfl, hKM⟩, hb⟩
          have NTT : Hid (Tp w a b sa sb sc sd x3) := TT.out.nx hb
          have NZM : Hid (Zb cM (.int .i64 0) (.int .u8 0) (.slice none 0 0) x3) := ZM.out.nx hb
          have NKO : Hid (Kx a f oa oc lo ho x3) := KO.out.nx hb
          clear TT
          have TT : Hid (Tp w a b sa sb sc sd x3) := NTT.out
          clear NTT
          clear ZM
          have ZM : Hid (Zb cM (.int .i64 0) (.int .u8 0) (.slice none 0 0) x3) := NZM.out
          clear NZM
          clear KO
          have KO : Hid (Kx a f oa oc lo ho x3) := NKO.out
          clear NKO
          obtain ⟨lm, hlm⟩ : ∃ lm, x2.heap.size = lm := ⟨_, rfl⟩
          obtain ⟨hm, hhm⟩ : ∃ hm, x3.heap.size = hm := ⟨_, rfl⟩
          have KM : Hid (Kx b f ma mc lm hm x3) := by show Kx _ _ _ _ _ _ _; rw [← hlm, ← hhm]; exact hKM
          have Lm : Hid _ := hlm
          have Hm : Hid _ := hhm
          have Mm : Hid _ := hb.size
          clear hb hKM hlm hhm
          go_wp2_with fail
          refine hK.out _ _ TT.out.facts (fun hHeld => ?_)
          clear hK K
          try simp only [Act.put, List.getElem_toArray, List.getElem_cons_zero, List.getElem_cons_succ, List.setIfInBounds_toArray, List.set_cons_zero, List.set_cons_succ]
          refine wpAnyH_ready (rs := [4]) (by kernel_rfl) (by simp) ?_
          refine (AllReadyH.cons rfl (fun K hK => ?_) AllReadyH.nil)
          · go_simp
            obtain ⟨x4, hx4⟩ : ∃ x4, x3.alloc (.cells #[.int .i64 0, .int .u8 0, .slice none 0 0] 27) = x4 := ⟨_, rfl⟩
            have hb : Below x3.heap.size x3 x4 := by rw [← hx4]; exact (Below.refl _ _).alloc (Nat.le_refl _) _
            have hz : Zb x3.heap.size (.int .i64 0) (.int .u8 0) (.slice none 0 0) x4 := by rw [← hx4]; exact Zb.new _ _ _ _
            have hs : x4.heap.size = x3.heap.size + 1 := by rw [← hx4]; simp
            obtain ⟨cO, hcO⟩ : ∃ cO, x3.heap.size = cO := ⟨_, rfl⟩
            rw [hx4, hcO]
            have NTT : Hid (Tp w a b sa sb sc sd x4) := TT.out.nx hb
            have NZM : Hid (Zb cM (.int .i64 0) (.int .u8 0) (.slice none 0 0) x4) := ZM.out.nx hb
            have NKO : Hid (Kx a f oa oc lo ho x4) := KO.out.nx hb
            have NKM : Hid (Kx b f ma mc lm hm x4) := KM.out.nx hb
            clear TT
            have TT : Hid (Tp w a b sa sb sc sd x4) := NTT.out
            clear NTT
            clear ZM
            have ZM : Hid (Zb cM (.int .i64 0) (.int .u8 0) (.slice none 0 0) x4) := NZM.out
            clear NZM
            clear KO
            have KO : Hid (Kx a f oa oc lo ho x4) := NKO.out
            clear NKO
            clear KM
            have KM : Hid (Kx b f ma mc lm hm x4) := NKM.out
            clear NKM
            have ZO : Hid (Zb cO (.int .i64 0) (.int .u8 0) (.slice none 0 0) x4) := by show Zb _ _ _ _ _; rw [← hcO]; exact hz
            have EcO : Hid _ := hcO
            have FcO : Hid _ := hs
            clear hb hz hs hcO hx4
            refine hK.out _ _ TT.out.facts (fun hHeld => ?_)
            clear hK K
            try simp only [Act.put, List.getElem_toArray, List.getElem_cons_zero, List.getElem_cons_succ, List.setIfInBounds_toArray, List.set_cons_zero, List.set_cons_succ]
            refine wpAnyH_ready (rs := [6]) (by kernel_rfl) (by simp) ?_
            refine (AllReadyH.cons rfl (fun K hK => ?_) AllReadyH.nil)
            have z0 := ZO.out.z0
            have z1 := ZO.out.z1
            have z2 := ZO.out.z2
            have f0 := ZO.out.fz 0
            have f1 := ZO.out.fz 1
            have f2 := ZO.out.fz 2
            go_simp
            have hsv := Sv.set (X := x4) cO (.int .i64 a.rule) (.int .u8 (a.byte.toNat : Int)) (.slice oa a.kids.length oc)
            have hzz := ZO.out.set (.int .i64 a.rule) (.int .u8 (a.byte.toNat : Int)) (.slice oa a.kids.length oc)
            obtain ⟨x5, hx5⟩ : ∃ x5, ((x4.setCell ⟨cO, 0, none⟩ (.int .i64 a.rule)).setCell ⟨cO, 1, none⟩ (.int .u8 (a.byte.toNat : Int))).setCell ⟨cO, 2, none⟩ (.slice oa a.kids.length oc) = x5 := ⟨_, rfl⟩
            rw [hx5] at hsv hzz
            rw [hx5]
            have NTT : Hid (Tp w a b sa sb sc sd x5) := TT.out.sv hsv (by have := LT.out; have := EcM.out; have := FcM.out; have := Lo.out; have := Ho.out; have := Mo.out; have := Lm.out; have := Hm.out; have := Mm.out; have := EcO.out; have := FcO.out; omega)
            have NZM : Hid (Zb cM (.int .i64 0) (.int .u8 0) (.slice none 0 0) x5) := ZM.out.sv hsv (by have := LT.out; have := EcM.out; have := FcM.out; have := Lo.out; have := Ho.out; have := Mo.out; have := Lm.out; have := Hm.out; have := Mm.out; have := EcO.out; have := FcO.out; omega)
            have NKO : Hid (Kx a f oa oc lo ho x5) := KO.out.sv hsv (by have := LT.out; have := EcM.out; have := FcM.out; have := Lo.out; have := Ho.out; have := Mo.out; have := Lm.out; have := Hm.out; have := Mm.out; have := EcO.out; have := FcO.out; omega)
            have NKM : Hid (Kx b f ma mc lm hm x5) := KM.out.sv hsv (by have := LT.out; have := EcM.out; have := FcM.out; have := Lo.out; have := Ho.out; have := Mo.out; have := Lm.out; have := Hm.out; have := Mm.out; have := EcO.out; have := FcO.out; omega)
            clear TT
            have TT : Hid (Tp w a b sa sb sc sd x5) := NTT.out
            clear NTT
            clear ZM
            have ZM : Hid (Zb cM (.int .i64 0) (.int .u8 0) (.slice none 0 0) x5) := NZM.out
            clear NZM
            clear KO
            have KO : Hid (Kx a f oa oc lo ho x5) := NKO.out
            clear NKO
            clear KM
            have KM : Hid (Kx b f ma mc lm hm x5) := NKM.out
            clear NKM
            clear ZO
            have ZO : Hid (Zb cO (.int .i64 a.rule) (.int .u8 (a.byte.toNat : Int)) (.slice oa a.kids.length oc) x5) := hzz
            clear hsv hzz hx5 z0 z1 z2 f0 f1 f2
            refine hK.out _ _ TT.out.facts (fun hHeld => ?_)
            clear hK K
            try simp only [Act.put, List.getElem_toArray, List.getElem_cons_zero, List.getElem_cons_succ, List.setIfInBounds_toArray, List.set_cons_zero, List.set_cons_succ]
            refine wpAnyH_ready (rs := [7]) (by kernel_rfl) (by simp) ?_
            refine (AllReadyH.cons rfl (fun K hK => ?_) AllReadyH.nil)
            have z0 := ZM.out.z0
            have z1 := ZM.out.z1
            have z2 := ZM.out.z2
            have f0 := ZM.out.fz 0
            have f1 := ZM.out.fz 1
            have f2 := ZM.out.fz 2
            go_simp
            have hsv := Sv.set (X := x5) cM (.int .i64 b.rule) (.int .u8 (b.byte.toNat : Int)) (.slice ma b.kids.length mc)
            have hzz := ZM.out.set (.int .i64 b.rule) (.int .u8 (b.byte.toNat : Int)) (.slice ma b.kids.length mc)
            obtain ⟨x6, hx6⟩ : ∃ x6, ((x5.setCell ⟨cM, 0, none⟩ (.int .i64 b.rule)).setCell ⟨cM, 1, none⟩ (.int .u8 (b.byte.toNat : Int))).setCell ⟨cM, 2, none⟩ (.slice ma b.kids.length mc) = x6 := ⟨_, rfl⟩
            rw [hx6] at hsv hzz
            rw [hx6]
            have NTT : Hid (Tp w a b sa sb sc sd x6) := TT.out.sv hsv (by have := LT.out; have := EcM.out; have := FcM.out; have := Lo.out; have := Ho.out; have := Mo.out; have := Lm.out; have := Hm.out; have := Mm.out; have := EcO.out; have := FcO.out; omega)
            have NKO : Hid (Kx a f oa oc lo ho x6) := KO.out.sv hsv (by have := LT.out; have := EcM.out; have := FcM.out; have := Lo.out; have := Ho.out; have := Mo.out; have := Lm.out; have := Hm.out; have := Mm.out; have := EcO.out; have := FcO.out; omega)
            have NKM : Hid (Kx b f ma mc lm hm x6) := KM.out.sv hsv (by have := LT.out; have := EcM.out; have := FcM.out; have := Lo.out; have := Ho.out; have := Mo.out; have := Lm.out; have := Hm.out; have := Mm.out; have := EcO.out; have := FcO.out; omega)
            have NZO : Hid (Zb cO (.int .i64 a.rule) (.int .u8 (a.byte.toNat : Int)) (.slice oa a.kids.length oc) x6) := ZO.out.sv hsv (by have := LT.out; have := EcM.out; have := FcM.out; have := Lo.out; have := Ho.out; have := Mo.out; have := Lm.out; have := Hm.out; have := Mm.out; have := EcO.out; have := FcO.out; omega)
            clear TT
            have TT : Hid (Tp w a b sa sb sc sd x6) := NTT.out
            clear NTT
            clear KO
            have KO : Hid (Kx a f oa oc lo ho x6) := NKO.out
            clear NKO
            clear KM
            have KM : Hid (Kx b f ma mc lm hm x6) := NKM.out
            clear NKM
            clear ZO
            have ZO : Hid (Zb cO (.int .i64 a.rule) (.int .u8 (a.byte.toNat : Int)) (.slice oa a.kids.length oc) x6) := NZO.out
            clear NZO
            clear ZM
            have ZM : Hid (Zb cM (.int .i64 b.rule) (.int .u8 (b.byte.toNat : Int)) (.slice ma b.kids.length mc) x6) := hzz
            clear hsv hzz hx6 z0 z1 z2 f0 f1 f2
            refine hK.out _ _ TT.out.facts (fun hHeld => ?_)
            clear hK K
            try simp only [Act.put, List.getElem_toArray, List.getElem_cons_zero, List.getElem_cons_succ, List.setIfInBounds_toArray, List.set_cons_zero, List.set_cons_succ]
            refine wpAnyH_done (by kernel_rfl) ?_ _
            clear hHeld
            go_wp2
            go_meet
            exact ⟨cO, cM, oa, oc, ma, mc, lo, ho, lm, hm, rfl, rfl, ⟨TT.out, KO.out, KM.out, ZO.out, ZM.out, (by have := LT.out; have := EcM.out; have := FcM.out; have := Lo.out; have := Ho.out; have := Mo.out; have := Lm.out; have := Hm.out; have := Mm.out; have := EcO.out; have := FcO.out; omega), (by have := LT.out; have := EcM.out; have := FcM.out; have := Lo.out; have := Ho.out; have := Mo.out; have := Lm.out; have := Hm.out; have := Mm.out; have := EcO.out; have := FcO.out; omega), (by have := LT.out; have := EcM.out; have := FcM.out; have := Lo.out; have := Ho.out; have := Mo.out; have := Lm.out; have := Hm.out; have := Mm.out; have := EcO.out; have := FcO.out; omega), (by have := LT.out; have := EcM.out; have := FcM.out; have := Lo.out; have := Ho.out; have := Mo.out; have := Lm.out; have := Hm.out; have := Mm.out; have := EcO.out; have := FcO.out; omega), (by have := LT.out; have := EcM.out; have := FcM.out; have := Lo.out; have := Ho.out; have := Mo.out; have := Lm.out; have := Hm.out; have := Mm.out; have := EcO.out; have := FcO.out; omega), (by have := LT.out; have := EcM.out; have := FcM.out; have := Lo.out; have := Ho.out; have := Mo.out; have := Lm.out; have := Hm.out; have := Mm.out; have := EcO.out; have := FcO.out; omega), (by have := LT.out; have := EcM.out; have := FcM.out; have := Lo.out; have := Ho.out; have := Mo.out; have := Lm.out; have := Hm.out; have := Mm.out; have := EcO.out; have := FcO.out; omega)⟩⟩
        · go_simp
          obtain ⟨x3, hx3⟩ : ∃ x3, x2.alloc (.cells #[.int .i64 0, .int .u8 0, .slice none 0 0] 27) = x3 := ⟨_, rfl⟩
          have hb : Below x2.heap.size x2 x3 := by rw [← hx3]; exact (Below.refl _ _).alloc (Nat.le_refl _) _
          have hz : Zb x2.heap.size (.int .i64 0) (.int .u8 0) (.slice none 0 0) x3 := by rw [← hx3]; exact Zb.new _ _ _ _
          have hs : x3.heap.size = x2.heap.size + 1 := by rw [← hx3]; simp
          obtain ⟨cO, hcO⟩ : ∃ cO, x2.heap.size = cO := ⟨_, rfl⟩
          rw [hx3, hcO]
          have NTT : Hid (Tp w a b sa sb sc sd x3) := TT.out.nx hb
          have NZM : Hid (Zb cM (.int .i64 0) (.int .u8 0) (.slice none 0 0) x3) := ZM.out.nx hb
          have NKO : Hid (Kx a f oa oc lo ho x3) := KO.out.nx hb
          clear TT
          have TT : Hid (Tp w a b sa sb sc sd x3) := NTT.out
          clear NTT
          clear ZM
          have ZM : Hid (Zb cM (.int .i64 0) (.int .u8 0) (.slice none 0 0) x3) := NZM.out
          clear NZM
          clear KO
          have KO : Hid (Kx a f oa oc lo ho x3) := NKO.out
          clear NKO
          have ZO : Hid (Zb cO (.int .i64 0) (.int .u8 0) (.slice none 0 0) x3) := by show Zb _ _ _ _ _; rw [← hcO]; exact hz
          have EcO : Hid _ := hcO
          have FcO : Hid _ := hs
          clear hb hz hs hcO hx3
          refine hK.out _ _ TT.out.facts (fun hHeld => ?_)
          clear hK K
          try simp only [Act.put, List.getElem_toArray, List.getElem_cons_zero, List.getElem_cons_succ, List.setIfInBounds_toArray, List.set_cons_zero, List.set_cons_succ]
          refine wpAnyH_ready (rs := [3]) (by kernel_rfl) (by simp) ?_
          refine (AllReadyH.cons rfl (fun K hK => ?_) AllReadyH.nil)
          · go_simp
            refine (HCM.out _ TT.out).mono ?_
            rintro e x4 ⟨⟨ma, mc, rfl, hKM⟩, hb⟩
            have NTT : Hid (Tp w a b sa sb sc sd x4) := TT.out.nx hb
            have NZM : Hid (Zb cM (.int .i64 0) (.int .u8 0) (.slice none 0 0) x4) := ZM.out.nx hb
            have NKO : Hid (Kx a f oa oc lo ho x4) := KO.out.nx hb
            have NZO : Hid (Zb cO (.int .i64 0) (.int .u8 0) (.slice none 0 0) x4) := ZO.out.nx hb
            clear TT
            have TT : Hid (Tp w a b sa sb sc sd x4) := NTT.out
            clear NTT
            clear ZM
            have ZM : Hid (Zb cM (.int .i64 0) (.int .u8 0) (.slice none 0 0) x4) := NZM.out
            clear NZM
            clear KO
            have KO : Hid (Kx a f oa oc lo ho x4) := NKO.out
            clear NKO
            clear ZO
            have ZO : Hid (Zb cO (.int .i64 0) (.int .u8 0) (.slice none 0 0) x4) := NZO.out
            clear NZO
            obtain ⟨lm, hlm⟩ : ∃ lm, x3.heap.size = lm := ⟨_, rfl⟩
            obtain ⟨hm, hhm⟩ : ∃ hm, x4.heap.size = hm := ⟨_, rfl⟩
            have KM : Hid (Kx b f ma mc lm hm x4) := by show Kx _ _ _ _ _ _ _; rw [← hlm, ← hhm]; exact hKM
            have Lm : Hid _ := hlm
            have Hm : Hid _ := hhm
            have Mm : Hid _ := hb.size
            clear hb hKM hlm hhm
            go_wp2_with fail
            refine hK.out _ _ TT.out.facts (fun hHeld => ?_)
            clear hK K
            try simp only [Act.put, List.getElem_toArray, List.getElem_cons_zero, List.getElem_cons_succ, List.setIfInBounds_toArray, List.set_cons_zero, List.set_cons_succ]
            refine wpAnyH_ready (rs := [6]) (by kernel_rfl) (by simp) ?_
            refine (AllReadyH.cons rfl (fun K hK => ?_) AllReadyH.nil)
            have z0 := ZO.out.z0
            have z1 := ZO.out.z1
            have z2 := ZO.out.z2
            have f0 := ZO.out.fz 0
            have f1 := ZO.out.fz 1
            have f2 := ZO.out.fz 2
            go_simp
            have hsv := Sv.set (X := x4) cO (.int .i64 a.rule) (.int .u8 (a.byte.toNat : Int)) (.slice oa a.kids.length oc)
            have hzz := ZO.out.set (.int .i64 a.rule) (.int .u8 (a.byte.toNat : Int)) (.slice oa a.kids.length oc)
            obtain ⟨x5, hx5⟩ : ∃ x5, ((x4.setCell ⟨cO, 0, none⟩ (.int .i64 a.rule)).setCell ⟨cO, 1, none⟩ (.int .u8 (a.byte.toNat : Int))).setCell ⟨cO, 2, none⟩ (.slice oa a.kids.length oc) = x5 := ⟨_, rfl⟩
            rw [hx5] at hsv hzz
            rw [hx5]
            have NTT : Hid (Tp w a b sa sb sc sd x5) := TT.out.sv hsv (by have := LT.out; have := EcM.out; have := FcM.out; have := Lo.out; have := Ho.out; have := Mo.out; have := EcO.out; have := FcO.out; have := Lm.out; have := Hm.out; have := Mm.out; omega)
            have NZM : Hid (Zb cM (.int .i64 0) (.int .u8 0) (.slice none 0 0) x5) := ZM.out.sv hsv (by have := LT.out; have := EcM.out; have := FcM.out; have := Lo.out; have := Ho.out; have := Mo.out; have := EcO.out; have := FcO.out; have := Lm.out; have := Hm.out; have := Mm.out; omega)
            have NKO : Hid (Kx a f oa oc lo ho x5) := KO.out.sv hsv (by have := LT.out; have := EcM.out; have := FcM.out; have := Lo.out; have := Ho.out; have := Mo.out; have := EcO.out; have := FcO.out; have := Lm.out; have := Hm.out; have := Mm.out; omega)
            have NKM : Hid (Kx b f ma mc lm hm x5) := KM.out.sv hsv (by have := LT.out; have := EcM.out; have := FcM.out; have := Lo.out; have := Ho.out; have := Mo.out; have := EcO.out; have := FcO.out; have := Lm.out; have := Hm.out; have := Mm.out; omega)
            clear TT
            have TT : Hid (Tp w a b sa sb sc sd x5) := NTT.out
            clear NTT
            clear ZM
            have ZM : Hid (Zb cM (.int .i64 0) (.int .u8 0) (.slice none 0 0) x5) := NZM.out
            clear NZM
            clear KO
            have KO : Hid (Kx a f oa oc lo ho x5) := NKO.out
            clear NKO
            clear KM
            have KM : Hid (Kx b f ma mc lm hm x5) := NKM.out
            clear NKM
            clear ZO
            have ZO : Hid (Zb cO (.int .i64 a.rule) (.int .u8 (a.byte.toNat : Int)) (.slice oa a.kids.length oc) x5) := hzz
            clear hsv hzz hx5 z0 z1 z2 f0 f1 f2
            refine hK.out _ _ TT.out.facts (fun hHeld => ?_)
            clear hK K
            try simp only [Act.put, List.getElem_toArray, List.getElem_cons_zero, List.getElem_cons_succ, List.setIfInBounds_toArray, List.set_cons_zero, List.set_cons_succ]
            refine wpAnyH_ready (rs := [7]) (by kernel_rfl) (by simp) ?_
            refine (AllReadyH.cons rfl (fun K hK => ?_) AllReadyH.nil)
            have z0 := ZM.out.z0
            have z1 := ZM.out.z1
            have z2 := ZM.out.z2
            have f0 := ZM.out.fz 0
            have f1 := ZM.out.fz 1
            have f2 := ZM.out.fz 2
            go_simp
            have hsv := Sv.set (X := x5) cM (.int .i64 b.rule) (.int .u8 (b.byte.toNat : Int)) (.slice ma b.kids.length mc)
            have hzz := ZM.out.set (.int .i64 b.rule) (.int .u8 (b.byte.toNat : Int)) (.slice ma b.kids.length mc)
            obtain ⟨x6, hx6⟩ : ∃ x6, ((x5.setCell ⟨cM, 0, none⟩ (.int .i64 b.rule)).setCell ⟨cM, 1, none⟩ (.int .u8 (b.byte.toNat : Int))).setCell ⟨cM, 2, none⟩ (.slice ma b.kids.length mc) = x6 := ⟨_, rfl⟩
            rw [hx6] at hsv hzz
            rw [hx6]
            have NTT : Hid (Tp w a b sa sb sc sd x6) := TT.out.sv hsv (by have := LT.out; have := EcM.out; have := FcM.out; have := Lo.out; have := Ho.out; have := Mo.out; have := EcO.out; have := FcO.out; have := Lm.out; have := Hm.out; have := Mm.out; omega)
            have NKO : Hid (Kx a f oa oc lo ho x6) := KO.out.sv hsv (by have := LT.out; have := EcM.out; have := FcM.out; have := Lo.out; have := Ho.out; have := Mo.out; have := EcO.out; have := FcO.out; have := Lm.out; have := Hm.out; have := Mm.out; omega)
            have NZO : Hid (Zb cO (.int .i64 a.rule) (.int .u8 (a.byte.toNat : Int)) (.slice oa a.kids.length oc) x6) := ZO.out.sv hsv (by have := LT.out; have := EcM.out; have := FcM.out; have := Lo.out; have := Ho.out; have := Mo.out; have := EcO.out; have := FcO.out; have := Lm.out; have := Hm.out; have := Mm.out; omega)
            have NKM : Hid (Kx b f ma mc lm hm x6) := KM.out.sv hsv (by have := LT.out; have := EcM.out; have := FcM.out; have := Lo.out; have := Ho.out; have := Mo.out; have := EcO.out; have := FcO.out; have := Lm.out; have := Hm.out; have := Mm.out; omega)
            clear TT
            have TT : Hid (Tp w a b sa sb sc sd x6) := NTT.out
            clear NTT
            clear KO
            have KO : Hid (Kx a f oa oc lo ho x6) := NKO.out
            clear NKO
            clear ZO
            have ZO : Hid (Zb cO (.int .i64 a.rule) (.int .u8 (a.byte.toNat : Int)) (.slice oa a.kids.length oc) x6) := NZO.out
            clear NZO
            clear KM
            have KM : Hid (Kx b f ma mc lm hm x6) := NKM.out
            clear NKM
            clear ZM
            have ZM : Hid (Zb cM (.int .i64 b.rule) (.int .u8 (b.byte.toNat : Int)) (.slice ma b.kids.length mc) x6) := hzz
            clear hsv hzz hx6 z0 z1 z2 f0 f1 f2
            refine hK.out _ _ TT.out.facts (fun hHeld => ?_)
            clear hK K
            try simp only [Act.put, List.getElem_toArray, List.getElem_cons_zero, List.getElem_cons_succ, List.setIfInBounds_toArray, List.set_cons_zero, List.set_cons_succ]
            refine wpAnyH_done (by kernel_rfl) ?_ _
            clear hHeld
            go_wp2
            go_meet
            exact ⟨cO, cM, oa, oc, ma, mc, lo, ho, lm, hm, rfl, rfl, ⟨TT.out, KO.out, KM.out, ZO.out, ZM.out, (by have := LT.out; have := EcM.out; have := FcM.out; have := Lo.out; have := Ho.out; have := Mo.out; have := EcO.out; have := FcO.out; have := Lm.out; have := Hm.out; have := Mm.out; omega), (by have := LT.out; have := EcM.out; have := FcM.out; have := Lo.out; have := Ho.out; have := Mo.out; have := EcO.out; have := FcO.out; have := Lm.out; have := Hm.out; have := Mm.out; omega), (by have := LT.out; have := EcM.out; have := FcM.out; have := Lo.out; have := Ho.out; have := Mo.out; have := EcO.out; have := FcO.out; have := Lm.out; have := Hm.out; have := Mm.out; omega), (by have := LT.out; have := EcM.out; have := FcM.out; have := Lo.out; have := Ho.out; have := Mo.out; have := EcO.out; have := FcO.out; have := Lm.out; have := Hm.out; have := Mm.out; omega), (by have := LT.out; have := EcM.out; have := FcM.out; have := Lo.out; have := Ho.out; have := Mo.out; have := EcO.out; have := FcO.out; have := Lm.out; have := Hm.out; have := Mm.out; omega), (by have := LT.out; have := EcM.out; have := FcM.out; have := Lo.out; have := Ho.out; have := Mo.out; have := EcO.out; have := FcO.out; have := Lm.out; have := Hm.out; have := Mm.out; omega), (by have := LT.out; have := EcM.out; have := FcM.out; have := Lo.out; have := Ho.out; have := Mo.out; have := EcO.out; have := FcO.out; have := Lm.out; have := Hm.out; have := Mm.out; omega)⟩⟩
      · go_simp
        obtain ⟨x2, hx2⟩ : ∃ x2, x1.alloc (.cells #[.int .i64 0, .int .u8 0, .slice none 0 0] 27) = x2 := ⟨_, rfl⟩
        have hb : Below x1.heap.size x1 x2 := by rw [← hx2]; exact (Below.refl _ _).alloc (Nat.le_refl _) _
        have hz : Zb x1.heap.size (.int .i64 0) (.int .u8 0) (.slice none 0 0) x2 := by rw [← hx2]; exact Zb.new _ _ _ _
        have hs : x2.heap.size = x1.heap.size + 1 := by rw [← hx2]; simp
        obtain ⟨cO, hcO⟩ : ∃ cO, x1.heap.size = cO := ⟨_, rfl⟩
        rw [hx2, hcO]
        have NTT : Hid (Tp w a b sa sb sc sd x2) := TT.out.nx hb
        have NZM : Hid (Zb cM (.int .i64 0) (.int .u8 0) (.slice none 0 0) x2) := ZM.out.nx hb
        clear TT
        have TT : Hid (Tp w a b sa sb sc sd x2) := NTT.out
        clear NTT
        clear ZM
        have ZM : Hid (Zb cM (.int .i64 0) (.int .u8 0) (.slice none 0 0) x2) := NZM.out
        clear NZM
        have ZO : Hid (Zb cO (.int .i64 0) (.int .u8 0) (.slice none 0 0) x2) := by show Zb _ _ _ _ _; rw [← hcO]; exact hz
        have EcO : Hid _ := hcO
        have FcO : Hid _ := hs
        clear hb hz hs hcO hx2
        refine hK.out _ _ TT.out.facts (fun hHeld => ?_)
        clear hK K
        try simp only [Act.put, List.getElem_toArray, List.getElem_cons_zero, List.getElem_cons_succ, List.setIfInBounds_toArray, List.set_cons_zero, List.set_cons_succ]
        refine wpAnyH_ready (rs := [1]) (by kernel_rfl) (by simp) ?_
        refine (AllReadyH.cons rfl (fun K hK => ?_) AllReadyH.nil)
        · go_simp
          refine (HCO.out _ TT.out).mono ?_
          rintro e x3 ⟨⟨oa, oc, rfl, hKO⟩, hb⟩
          have NTT : Hid (Tp w a b sa sb sc sd x3) := TT.out.nx hb
          have NZM : Hid (Zb cM (.int .i64 0) (.int .u8 0) (.slice none 0 0) x3) := ZM.out.nx hb
          have NZO : Hid (Zb cO (.int .i64 0) (.int .u8 0) (.slice none 0 0) x3) := ZO.out.nx hb
          clear TT
          have TT : Hid (Tp w a b sa sb sc sd x3) := NTT.out
          clear NTT
          clear ZM
          have ZM : Hid (Zb cM (.int .i64 0) (.int .u8 0) (.slice none 0 0) x3) := NZM.out
          clear NZM
          clear ZO
          have ZO : Hid (Zb cO (.int .i64 0) (.int .u8 0) (.slice none 0 0) x3) := NZO.out
          clear NZO
          obtain ⟨lo, hlo⟩ : ∃ lo, x2.heap.size = lo := ⟨_, rfl⟩
          obtain ⟨ho, hho⟩ : ∃ ho, x3.heap.size = ho := ⟨_, rfl⟩
          have KO : Hid (Kx a f oa oc lo ho x3) := by show Kx _ _ _ _ _ _ _; rw [← hlo, ← hho]; exact hKO
          have Lo : Hid _ := hlo
          have Ho : Hid _ := hho
          have Mo : Hid _ := hb.size
          clear hb hKO hlo hho
          go_wp2_with fail
          refine hK.out _ _ TT.out.facts (fun hHeld => ?_)
          clear hK K
          try simp only [Act.put, List.getElem_toArray, List.getElem_cons_zero, List.getElem_cons_succ, List.setIfInBounds_toArray, List.set_cons_zero, List.set_cons_succ]
          refine wpAnyH_ready (rs := [3]) (by kernel_rfl) (by simp) ?_
          refine (AllReadyH.cons rfl (fun K hK => ?_) AllReadyH.nil)
          · go_simp
            refine (HCM.out _ TT.out).mono ?_
            rintro e x4 ⟨⟨ma, mc, rfl, hKM⟩, hb⟩
            have NTT : Hid (Tp w a b sa sb sc sd x4) := TT.out.nx hb
            have NZM : Hid (Zb cM (.int .i64 0) (.int .u8 0) (.slice none 0 0) x4) := ZM.out.nx hb
            have NZO : Hid (Zb cO (.int .i64 0) (.int .u8 0) (.slice none 0 0) x4) := ZO.out.nx hb
            have NKO : Hid (Kx a f oa oc lo ho x4) := KO.out.nx hb
            clear TT
            have TT : Hid (Tp w a b sa sb sc sd x4) := NTT.out
            clear NTT
            clear ZM
            have ZM : Hid (Zb cM (.int .i64 0) (.int .u8 0) (.slice none 0 0) x4) := NZM.out
            clear NZM
            clear ZO
            have ZO : Hid (Zb cO (.int .i64 0) (.int .u8 0) (.slice none 0 0) x4) := NZO.out
            clear NZO
            clear KO
            have KO : Hid (Kx a f oa oc lo ho x4) := NKO.out
            clear NKO
            obtain ⟨lm, hlm⟩ : ∃ lm, x3.heap.size = lm := ⟨_, rfl⟩
            obtain ⟨hm, hhm⟩ : ∃ hm, x4.heap.size = hm := ⟨_, rfl⟩
            have KM : Hid (Kx b f ma mc lm hm x4) := by show Kx _ _ _ _ _ _ _; rw [← hlm, ← hhm]; exact hKM
            have Lm : Hid _ := hlm
            have Hm : Hid _ := hhm
            have Mm : Hid _ := hb.size
            clear hb hKM hlm hhm
            go_wp2_with fail
            refine hK.out _ _ TT.out.facts (fun hHeld => ?_)
            clear hK K
            try simp only [Act.put, List.getElem_toArray, List.getElem_cons_zero, List.getElem_cons_succ, List.setIfInBounds_toArray, List.set_cons_zero, List.set_cons_succ]
            refine wpAnyH_ready (rs := [6]) (by kernel_rfl) (by simp) ?_
            refine (AllReadyH.cons rfl (fun K hK => ?_) AllReadyH.nil)
            have z0 := ZO.out.z0
            have z1 := ZO.out.z1
            have z2 := ZO.out.z2
            have f0 := ZO.out.fz 0
            have f1 := ZO.out.fz 1
            have f2 := ZO.out.fz 2
            go_simp
            have hsv := Sv.set (X := x4) cO (.int .i64 a.rule) (.int .u8 (a.byte.toNat : Int)) (.slice oa a.kids.length oc)
            have hzz := ZO.out.set (.int .i64 a.rule) (.int .u8 (a.byte.toNat : Int)) (.slice oa a.kids.length oc)
            obtain ⟨x5, hx5⟩ : ∃ x5, ((x4.setCell ⟨cO, 0, none⟩ (.int .i64 a.rule)).setCell ⟨cO, 1, none⟩ (.int .u8 (a.byte.toNat : Int))).setCell ⟨cO, 2, none⟩ (.slice oa a.kids.length oc) = x5 := ⟨_, rfl⟩
            rw [hx5] at hsv hzz
            rw [hx5]
            have NTT : Hid (Tp w a b sa sb sc sd x5) := TT.out.sv hsv (by have := LT.out; have := EcM.out; have := FcM.out; have := EcO.out; have := FcO.out; have := Lo.out; have := Ho.out; have := Mo.out; have := Lm.out; have := Hm.out; have := Mm.out; omega)
            have NZM : Hid (Zb cM (.int .i64 0) (.int .u8 0) (.slice none 0 0) x5) := ZM.out.sv hsv (by have := LT.out; have := EcM.out; have := FcM.out; have := EcO.out; have := FcO.out; have := Lo.out; have := Ho.out; have := Mo.out; have := Lm.out; have := Hm.out; have := Mm.out; omega)
            have NKO : Hid (Kx a f oa oc lo ho x5) := KO.out.sv hsv (by have := LT.out; have := EcM.out; have := FcM.out; have := EcO.out; have := FcO.out; have := Lo.out; have := Ho.out; have := Mo.out; have := Lm.out; have := Hm.out; have := Mm.out; omega)
            have NKM : Hid (Kx b f ma mc lm hm x5) := KM.out.sv hsv (by have := LT.out; have := EcM.out; have := FcM.out; have := EcO.out; have := FcO.out; have := Lo.out; have := Ho.out; have := Mo.out; have := Lm.out; have := Hm.out; have := Mm.out; omega)
            clear TT
            have TT : Hid (Tp w a b sa sb sc sd x5) := NTT.out
            clear NTT
            clear ZM
            have ZM : Hid (Zb cM (.int .i64 0) (.int .u8 0) (.slice none 0 0) x5) := NZM.out
            clear NZM
            clear KO
            have KO : Hid (Kx a f oa oc lo ho x5) := NKO.out
            clear NKO
            clear KM
            have KM : Hid (Kx b f ma mc lm hm x5) := NKM.out
            clear NKM
            clear ZO
            have ZO : Hid (Zb cO (.int .i64 a.rule) (.int .u8 (a.byte.toNat : Int)) (.slice oa a.kids.length oc) x5) := hzz
            clear hsv hzz hx5 z0 z1 z2 f0 f1 f2
            refine hK.out _ _ TT.out.facts (fun hHeld => ?_)
            clear hK K
            try simp only [Act.put, List.getElem_toArray, List.getElem_cons_zero, List.getElem_cons_succ, List.setIfInBounds_toArray, List.set_cons_zero, List.set_cons_succ]
            refine wpAnyH_ready (rs := [7]) (by kernel_rfl) (by simp) ?_
            refine (AllReadyH.cons rfl (fun K hK => ?_) AllReadyH.nil)
            have z0 := ZM.out.z0
            have z1 := ZM.out.z1
            have z2 := ZM.out.z2
            have f0 := ZM.out.fz 0
            have f1 := ZM.out.fz 1
            have f2 := ZM.out.fz 2
            go_simp
            have hsv := Sv.set (X := x5) cM (.int .i64 b.rule) (.int .u8 (b.byte.toNat : Int)) (.slice ma b.kids.length mc)
            have hzz := ZM.out.set (.int .i64 b.rule) (.int .u8 (b.byte.toNat : Int)) (.slice ma b.kids.length mc)
            obtain ⟨x6, hx6⟩ : ∃ x6, ((x5.setCell ⟨cM, 0, none⟩ (.int .i64 b.rule)).setCell ⟨cM, 1, none⟩ (.int .u8 (b.byte.toNat : Int))).setCell ⟨cM, 2, none⟩ (.slice ma b.kids.length mc) = x6 := ⟨_, rfl⟩
            rw [hx6] at hsv hzz
            rw [hx6]
            have NTT : Hid (Tp w a b sa sb sc sd x6) := TT.out.sv hsv (by have := LT.out; have := EcM.out; have := FcM.out; have := EcO.out; have := FcO.out; have := Lo.out; have := Ho.out; have := Mo.out; have := Lm.out; have := Hm.out; have := Mm.out; omega)
            have NZO : Hid (Zb cO (.int .i64 a.rule) (.int .u8 (a.byte.toNat : Int)) (.slice oa a.kids.length oc) x6) := ZO.out.sv hsv (by have := LT.out; have := EcM.out; have := FcM.out; have := EcO.out; have := FcO.out; have := Lo.out; have := Ho.out; have := Mo.out; have := Lm.out; have := Hm.out; have := Mm.out; omega)
            have NKO : Hid (Kx a f oa oc lo ho x6) := KO.out.sv hsv (by have := LT.out; have := EcM.out; have := FcM.out; have := EcO.out; have := FcO.out; have := Lo.out; have := Ho.out; have := Mo.out; have := Lm.out; have := Hm.out; have := Mm.out; omega)
            have NKM : Hid (Kx b f ma mc lm hm x6) := KM.out.sv hsv (by have := LT.out; have := EcM.out; have := FcM.out; have := EcO.out; have := FcO.out; have := Lo.out; have := Ho.out; have := Mo.out; have := Lm.out; have := Hm.out; have := Mm.out; omega)
            clear TT
            have TT : Hid (Tp w a b sa sb sc sd x6) := NTT.out
            clear NTT
            clear ZO
            have ZO : Hid (Zb cO (.int .i64 a.rule) (.int .u8 (a.byte.toNat : Int)) (.slice oa a.kids.length oc) x6) := NZO.out
            clear NZO
            clear KO
            have KO : Hid (Kx a f oa oc lo ho x6) := NKO.out
            clear NKO
            clear KM
            have KM : Hid (Kx b f ma mc lm hm x6) := NKM.out
            clear NKM
            clear ZM
            have ZM : Hid (Zb cM (.int .i64 b.rule) (.int .u8 (b.byte.toNat : Int)) (.slice ma b.kids.length mc) x6) := hzz
            clear hsv hzz hx6 z0 z1 z2 f0 f1 f2
            refine hK.out _ _ TT.out.facts (fun hHeld => ?_)
            clear hK K
            try simp only [Act.put, List.getElem_toArray, List.getElem_cons_zero, List.getElem_cons_succ, List.setIfInBounds_toArray, List.set_cons_zero, List.set_cons_succ]
            refine wpAnyH_done (by kernel_rfl) ?_ _
            clear hHeld
            go_wp2
            go_meet
            exact ⟨cO, cM, oa, oc, ma, mc, lo, ho, lm, hm, rfl, rfl, ⟨TT.out, KO.out, KM.out, ZO.out, ZM.out, (by have := LT.out; have := EcM.out; have := FcM.out; have := EcO.out; have := FcO.out; have := Lo.out; have := Ho.out; have := Mo.out; have := Lm.out; have := Hm.out; have := Mm.out; omega), (by have := LT.out; have := EcM.out; have := FcM.out; have := EcO.out; have := FcO.out; have := Lo.out; have := Ho.out; have := Mo.out; have := Lm.out; have := Hm.out; have := Mm.out; omega), (by have := LT.out; have := EcM.out; have := FcM.out; have := EcO.out; have := FcO.out; have := Lo.out; have := Ho.out; have := Mo.out; have := Lm.out; have := Hm.out; have := Mm.out; omega), (by have := LT.out; have := EcM.out; have := FcM.out; have := EcO.out; have := FcO.out; have := Lo.out; have := Ho.out; have := Mo.out; have := Lm.out; have := Hm.out; have := Mm.out; omega), (by have := LT.out; have := EcM.out; have := FcM.out; have := EcO.out; have := FcO.out; have := Lo.out; have := Ho.out; have := Mo.out; have := Lm.out; have := Hm.out; have := Mm.out; omega), (by have := LT.out; have := EcM.out; have := FcM.out; have := EcO.out; have := FcO.out; have := Lo.out; have := Ho.out; have := Mo.out; have := Lm.out; have := Hm.out; have := Mm.out; omega), (by have := LT.out; have := EcM.out; have := FcM.out; have := EcO.out; have := FcO.out; have := Lo.out; have := Ho.out; have := Mo.out; have := Lm.out; have := Hm.out; have := Mm.out; omega)⟩⟩
  case rest =>
    obtain ⟨cO, cM, oa, oc, ma, mc, lo, ho, lm, hm, rfl, rfl, Q⟩ := hcut
    have TT : Hid (Tp w a b sa sb sc sd wc) := Q.tp
    have KO : Hid (Kx a f oa oc lo ho wc) := Q.ko
    have KM : Hid (Kx b f ma mc lm hm wc) := Q.km
    have ZO : Hid (Zt cO a oa oc wc) := Q.zo
    have ZM : Hid (Zt cM b ma mc wc) := Q.zm
    have NQ : Hid (w.heap.size + 2 ≤ lo ∧ ho ≤ lm ∧ (w.heap.size + 2 ≤ cO ∧ w.heap.size + 2 ≤ cM) ∧ cO ≠ cM ∧ ((cO < lo ∨ ho ≤ cO) ∧ (cO < lm ∨ hm ≤ cO)) ∧ ((cM < lo ∨ ho ≤ cM) ∧ (cM < lm ∨ hm ≤ cM)) ∧ (lo ≤ ho ∧ lm ≤ hm) ∧ ho ≤ wc.heap.size ∧ hm ≤ wc.heap.size ∧ cO < wc.heap.size ∧ cM < wc.heap.size) := ⟨Q.q1, Q.q2, Q.q3, Q.q4, Q.q5, Q.q6, Q.q7, Q.ko.hi, Q.km.hi, Q.zo.lt, Q.zm.lt⟩
    have hpb : (n : Nat) ≤ 1000000000000 := by omega
    have HPB : Hid (ps.length ≤ 1000000000000) := by show _ ≤ _; rw [HNN.out]; exact hpb
    have HPC : Hid (ps.length ≤ pc) := by show _ ≤ _; rw [HNN.out]; exact hpc
    clear Q hpb
    obtain ⟨ra, hra⟩ : ∃ ra, (atP a ps).getD zeroT = ra := ⟨_, rfl⟩
    obtain ⟨ka, hka⟩ : ∃ ka, codeOf (atP a ps) = ka := ⟨_, rfl⟩
    obtain ⟨rp, hrp⟩ : ∃ rp, (putP a ps b).getD zeroT = rp := ⟨_, rfl⟩
    obtain ⟨kp, hkp⟩ : ∃ kp, codeOf (putP a ps b) = kp := ⟨_, rfl⟩
    have HAT : Hid (∀ W l h, Tp w a b sa sb sc sd W → Kx a f oa oc l h W → Calls Tryd.prog 28 #[.agg #[.int .i64 a.rule, .int .u8 (a.byte.toNat : Int), .slice oa a.kids.length oc], .slice pa n pc] W fun e w' => (∃ F va vc, e = .returned (.tuple #[.agg #[.int .i64 ra.rule, .int .u8 (ra.byte.toNat : Int), .slice va ra.kids.length vc], .int .i64 ka]) ∧ Kx ra F va vc W.heap.size w'.heap.size w') ∧ Below W.heap.size W w') := fun W l h ht hk => by
      have h' := X.at_any a oa oc f ps pa pc W hk.tat hk.c (by omega) (HIP.out W ht) HPB.out
      rw [HNN.out] at h'
      refine h'.mono fun e w' hp => ?_
      obtain ⟨F, va, vc, e1, e2, e3⟩ := apostX_one hp
      rw [hra, hka] at e1
      rw [hra] at e2
      exact ⟨⟨F, va, vc, e1, e2⟩, e3⟩
    have HRA : Hid (∀ W, Tp w a b sa sb sc sd W → Calls Tryd.prog 29 #[.agg #[.int .i64 a.rule, .int .u8 (a.byte.toNat : Int), .slice sa a.kids.length sc], .slice pa n pc] W fun e w' => (∃ F va vc, e = .returned (.tuple #[.agg #[.int .i64 ra.rule, .int .u8 (ra.byte.toNat : Int), .slice va ra.kids.length vc], .int .i64 ka]) ∧ Kn ra F va vc W.heap.size w'.heap.size w') ∧ Below W.heap.size W w') := fun W ht => by
      have h' := refAt_any ps a sa sc f pa pc W (HKA.out W ht) HSC.out.1 (by omega) (HIP.out W ht) HPC.out HPB.out
      rw [HNN.out] at h'
      refine h'.mono fun e w' hp => ?_
      obtain ⟨F, va, vc, e1, e2, e3⟩ := apost_one hp
      rw [hra, hka] at e1
      rw [hra] at e2
      exact ⟨⟨F, va, vc, e1, e2⟩, e3⟩
    have HPT : Hid (∀ W l h l' h', Tp w a b sa sb sc sd W → Kx a f oa oc l h W → Kx b f ma mc l' h' W → Calls Tryd.prog 30 #[.agg #[.int .i64 a.rule, .int .u8 (a.byte.toNat : Int), .slice oa a.kids.length oc], .slice pa n pc, .agg #[.int .i64 b.rule, .int .u8 (b.byte.toNat : Int), .slice ma b.kids.length mc]] W fun e w' => (∃ F va vc, e = .returned (.tuple #[.agg #[.int .i64 rp.rule, .int .u8 (rp.byte.toNat : Int), .slice va rp.kids.length vc], .int .i64 kp]) ∧ Kx rp F va vc W.heap.size w'.heap.size w') ∧ Below W.heap.size W w') := fun W l h l' h' ht hk hk' => by
      have h' := X.put_any a b oa ma oc mc f ps pa pc W hk.tat hk.c hk'.tat hk'.c (by omega) (HIP.out W ht) HPB.out
      rw [HNN.out] at h'
      refine h'.mono fun e w' hp => ?_
      obtain ⟨F, va, vc, e1, e2, e3⟩ := apostX_one hp
      rw [hrp, hkp] at e1
      rw [hrp] at e2
      exact ⟨⟨F, va, vc, e1, e2⟩, e3⟩
    have HRP : Hid (∀ W, Tp w a b sa sb sc sd W → Calls Tryd.prog 31 #[.agg #[.int .i64 a.rule, .int .u8 (a.byte.toNat : Int), .slice sa a.kids.length sc], .slice pa n pc, .agg #[.int .i64 b.rule, .int .u8 (b.byte.toNat : Int), .slice sb b.kids.length sd]] W fun e w' => (∃ F va vc, e = .returned (.tuple #[.agg #[.int .i64 rp.rule, .int .u8 (rp.byte.toNat : Int), .slice va rp.kids.length vc], .int .i64 kp]) ∧ Kn rp F va vc W.heap.size w'.heap.size w') ∧ Below W.heap.size W w') := fun W ht => by
      have h' := refPut_any ps a b sa sb sc sd f pa pc W (HKA.out W ht) HSC.out.1 (HKB.out W ht) HSC.out.2 (HIP.out W ht) HPC.out HPB.out
      rw [HNN.out] at h'
      refine h'.mono fun e w' hp => ?_
      obtain ⟨F, va, vc, e1, e2, e3⟩ := apost_one hp
      rw [hrp, hkp] at e1
      rw [hrp] at e2
      exact ⟨⟨F, va, vc, e1, e2⟩, e3⟩
    have HSM : Hid (∀ W (x : Tr) fx xa xc fy ya yc, TAt W W.heap.size fx xa x.kids → TAt W W.heap.size fy ya x.kids → Calls Tryd.prog 19 #[.agg #[.int .i64 x.rule, .int .u8 (x.byte.toNat : Int), .slice xa x.kids.length xc], .agg #[.int .i64 x.rule, .int .u8 (x.byte.toNat : Int), .slice ya x.kids.length yc]] W fun e w' => e = .returned (.bool true) ∧ Below W.heap.size W w') := fun W x fx xa xc fy ya yc h1 h2 => by
      have h' := refSame_any fx fy x x xa ya xc yc W h1 h2
      rw [eqT_true rfl] at h'
      exact h'
    clear hra hka hrp hkp
    have ZO0 := ZO.out.z0
    have ZO1 := ZO.out.z1
    have ZO2 := ZO.out.z2
    go_wp2_with fail
    clear ZO0 ZO1 ZO2
    refine (HAT.out _ _ _ TT.out KO.out).mono ?_
    rintro e y1 ⟨⟨FA, ia, ic, rfl, hkA⟩, hb⟩
    obtain ⟨YA, hYA⟩ : ∃ YA, y1.alloc (.cells #[.int .i64 ra.rule, .int .u8 (ra.byte.toNat : Int), .slice ia ra.kids.length ic] 27) = YA := ⟨_, rfl⟩
    have hb2 : Below y1.heap.size y1 YA := by rw [← hYA]; exact (Below.refl _ _).alloc (Nat.le_refl _) _
    have hz : Zt y1.heap.size ra ia ic YA := by rw [← hYA]; exact Zb.new _ _ _ _
    have hs : YA.heap.size = y1.heap.size + 1 := by rw [← hYA]; simp
    have NTT : Hid (Tp w a b sa sb sc sd YA) := TT.out.nx (below_of hb hb2)
    have NKO : Hid (Kx a f oa oc lo ho YA) := KO.out.nx (below_of hb hb2)
    have NKM : Hid (Kx b f ma mc lm hm YA) := KM.out.nx (below_of hb hb2)
    have NZO : Hid (Zt cO a oa oc YA) := ZO.out.nx (below_of hb hb2)
    have NZM : Hid (Zt cM b ma mc YA) := ZM.out.nx (below_of hb hb2)
    clear TT
    have TT : Hid (Tp w a b sa sb sc sd YA) := NTT.out
    clear NTT
    clear KO
    have KO : Hid (Kx a f oa oc lo ho YA) := NKO.out
    clear NKO
    clear KM
    have KM : Hid (Kx b f ma mc lm hm YA) := NKM.out
    clear NKM
    clear ZO
    have ZO : Hid (Zt cO a oa oc YA) := NZO.out
    clear NZO
    clear ZM
    have ZM : Hid (Zt cM b ma mc YA) := NZM.out
    clear NZM
    have KA : Hid (Kx ra FA ia ic wc.heap.size y1.heap.size YA) := hkA.nx hb2
    have ZA : Hid (Zt y1.heap.size ra ia ic YA) := hz
    have SA : Hid _ := hb.size
    have EA : Hid _ := hs
    clear hkA hb hb2 hz hs
    obtain ⟨e0, e1, e2, g0, g1, g2⟩ := TT.out.facts
    go_wp2_with fail
    clear e0 e1 e2 g0 g1 g2
    refine (HRA.out _ TT.out).mono ?_
    rintro e y2 ⟨⟨FB, ja, jc, rfl, hkB⟩, hb⟩
    obtain ⟨YB, hYB⟩ : ∃ YB, y2.alloc (.cells #[.int .i64 ra.rule, .int .u8 (ra.byte.toNat : Int), .slice ja ra.kids.length jc] 27) = YB := ⟨_, rfl⟩
    have hb2 : Below y2.heap.size y2 YB := by rw [← hYB]; exact (Below.refl _ _).alloc (Nat.le_refl _) _
    have hz : Zt y2.heap.size ra ja jc YB := by rw [← hYB]; exact Zb.new _ _ _ _
    have hs : YB.heap.size = y2.heap.size + 1 := by rw [← hYB]; simp
    have NTT : Hid (Tp w a b sa sb sc sd YB) := TT.out.nx (below_of hb hb2)
    have NKO : Hid (Kx a f oa oc lo ho YB) := KO.out.nx (below_of hb hb2)
    have NKM : Hid (Kx b f ma mc lm hm YB) := KM.out.nx (below_of hb hb2)
    have NZO : Hid (Zt cO a oa oc YB) := ZO.out.nx (below_of hb hb2)
    have NZM : Hid (Zt cM b ma mc YB) := ZM.out.nx (below_of hb hb2)
    have NKA : Hid (Kx ra FA ia ic wc.heap.size y1.heap.size YB) := KA.out.nx (below_of hb hb2)
    have NZA : Hid (Zt y1.heap.size ra ia ic YB) := ZA.out.nx (below_of hb hb2)
    clear TT
    have TT : Hid (Tp w a b sa sb sc sd YB) := NTT.out
    clear NTT
    clear KO
    have KO : Hid (Kx a f oa oc lo ho YB) := NKO.out
    clear NKO
    clear KM
    have KM : Hid (Kx b f ma mc lm hm YB) := NKM.out
    clear NKM
    clear ZO
    have ZO : Hid (Zt cO a oa oc YB) := NZO.out
    clear NZO
    clear ZM
    have ZM : Hid (Zt cM b ma mc YB) := NZM.out
    clear NZM
    clear KA
    have KA : Hid (Kx ra FA ia ic wc.heap.size y1.heap.size YB) := NKA.out
    clear NKA
    clear ZA
    have ZA : Hid (Zt y1.heap.size ra ia ic YB) := NZA.out
    clear NZA
    have KB : Hid (Kn ra FB ja jc YA.heap.size y2.heap.size YB) := hkB.nx hb2
    have ZB : Hid (Zt y2.heap.size ra ja jc YB) := hz
    have SB : Hid _ := hb.size
    have EB : Hid _ := hs
    clear hkB hb hb2 hz hs
    have ZO0 := ZO.out.z0
    have ZO1 := ZO.out.z1
    have ZO2 := ZO.out.z2
    have ZM0 := ZM.out.z0
    have ZM1 := ZM.out.z1
    have ZM2 := ZM.out.z2
    go_wp2_with fail
    clear ZO0 ZO1 ZO2
    clear ZM0 ZM1 ZM2
    refine (HPT.out _ _ _ _ _ TT.out KO.out KM.out).mono ?_
    rintro e y3 ⟨⟨FC, ua, uc, rfl, hkC⟩, hb⟩
    obtain ⟨YC, hYC⟩ : ∃ YC, y3.alloc (.cells #[.int .i64 rp.rule, .int .u8 (rp.byte.toNat : Int), .slice ua rp.kids.length uc] 27) = YC := ⟨_, rfl⟩
    have hb2 : Below y3.heap.size y3 YC := by rw [← hYC]; exact (Below.refl _ _).alloc (Nat.le_refl _) _
    have hz : Zt y3.heap.size rp ua uc YC := by rw [← hYC]; exact Zb.new _ _ _ _
    have hs : YC.heap.size = y3.heap.size + 1 := by rw [← hYC]; simp
    have NTT : Hid (Tp w a b sa sb sc sd YC) := TT.out.nx (below_of hb hb2)
    have NKO : Hid (Kx a f oa oc lo ho YC) := KO.out.nx (below_of hb hb2)
    have NKM : Hid (Kx b f ma mc lm hm YC) := KM.out.nx (below_of hb hb2)
    have NZO : Hid (Zt cO a oa oc YC) := ZO.out.nx (below_of hb hb2)
    have NZM : Hid (Zt cM b ma mc YC) := ZM.out.nx (below_of hb hb2)
    have NKA : Hid (Kx ra FA ia ic wc.heap.size y1.heap.size YC) := KA.out.nx (below_of hb hb2)
    have NZA : Hid (Zt y1.heap.size ra ia ic YC) := ZA.out.nx (below_of hb hb2)
    have NKB : Hid (Kn ra FB ja jc YA.heap.size y2.heap.size YC) := KB.out.nx (below_of hb hb2)
    have NZB : Hid (Zt y2.heap.size ra ja jc YC) := ZB.out.nx (below_of hb hb2)
    clear TT
    have TT : Hid (Tp w a b sa sb sc sd YC) := NTT.out
    clear NTT
    clear KO
    have KO : Hid (Kx a f oa oc lo ho YC) := NKO.out
    clear NKO
    clear KM
    have KM : Hid (Kx b f ma mc lm hm YC) := NKM.out
    clear NKM
    clear ZO
    have ZO : Hid (Zt cO a oa oc YC) := NZO.out
    clear NZO
    clear ZM
    have ZM : Hid (Zt cM b ma mc YC) := NZM.out
    clear NZM
    clear KA
    have KA : Hid (Kx ra FA ia ic wc.heap.size y1.heap.size YC) := NKA.out
    clear NKA
    clear ZA
    have ZA : Hid (Zt y1.heap.size ra ia ic YC) := NZA.out
    clear NZA
    clear KB
    have KB : Hid (Kn ra FB ja jc YA.heap.size y2.heap.size YC) := NKB.out
    clear NKB
    clear ZB
    have ZB : Hid (Zt y2.heap.size ra ja jc YC) := NZB.out
    clear NZB
    have KC : Hid (Kx rp FC ua uc YB.heap.size y3.heap.size YC) := hkC.nx hb2
    have ZC : Hid (Zt y3.heap.size rp ua uc YC) := hz
    have SC : Hid _ := hb.size
    have EC : Hid _ := hs
    clear hkC hb hb2 hz hs
    obtain ⟨e0, e1, e2, g0, g1, g2⟩ := TT.out.facts
    go_wp2_with fail
    clear e0 e1 e2 g0 g1 g2
    refine (HRP.out _ TT.out).mono ?_
    rintro e y4 ⟨⟨FD, va, vc, rfl, hkD⟩, hb⟩
    obtain ⟨YD, hYD⟩ : ∃ YD, y4.alloc (.cells #[.int .i64 rp.rule, .int .u8 (rp.byte.toNat : Int), .slice va rp.kids.length vc] 27) = YD := ⟨_, rfl⟩
    have hb2 : Below y4.heap.size y4 YD := by rw [← hYD]; exact (Below.refl _ _).alloc (Nat.le_refl _) _
    have hz : Zt y4.heap.size rp va vc YD := by rw [← hYD]; exact Zb.new _ _ _ _
    have hs : YD.heap.size = y4.heap.size + 1 := by rw [← hYD]; simp
    have NTT : Hid (Tp w a b sa sb sc sd YD) := TT.out.nx (below_of hb hb2)
    have NKO : Hid (Kx a f oa oc lo ho YD) := KO.out.nx (below_of hb hb2)
    have NKM : Hid (Kx b f ma mc lm hm YD) := KM.out.nx (below_of hb hb2)
    have NZO : Hid (Zt cO a oa oc YD) := ZO.out.nx (below_of hb hb2)
    have NZM : Hid (Zt cM b ma mc YD) := ZM.out.nx (below_of hb hb2)
    have NKA : Hid (Kx ra FA ia ic wc.heap.size y1.heap.size YD) := KA.out.nx (below_of hb hb2)
    have NZA : Hid (Zt y1.heap.size ra ia ic YD) := ZA.out.nx (below_of hb hb2)
    have NKB : Hid (Kn ra FB ja jc YA.heap.size y2.heap.size YD) := KB.out.nx (below_of hb hb2)
    have NZB : Hid (Zt y2.heap.size ra ja jc YD) := ZB.out.nx (below_of hb hb2)
    have NKC : Hid (Kx rp FC ua uc YB.heap.size y3.heap.size YD) := KC.out.nx (below_of hb hb2)
    have NZC : Hid (Zt y3.heap.size rp ua uc YD) := ZC.out.nx (below_of hb hb2)
    clear TT
    have TT : Hid (Tp w a b sa sb sc sd YD) := NTT.out
    clear NTT
    clear KO
    have KO : Hid (Kx a f oa oc lo ho YD) := NKO.out
    clear NKO
    clear KM
    have KM : Hid (Kx b f ma mc lm hm YD) := NKM.out
    clear NKM
    clear ZO
    have ZO : Hid (Zt cO a oa oc YD) := NZO.out
    clear NZO
    clear ZM
    have ZM : Hid (Zt cM b ma mc YD) := NZM.out
    clear NZM
    clear KA
    have KA : Hid (Kx ra FA ia ic wc.heap.size y1.heap.size YD) := NKA.out
    clear NKA
    clear ZA
    have ZA : Hid (Zt y1.heap.size ra ia ic YD) := NZA.out
    clear NZA
    clear KB
    have KB : Hid (Kn ra FB ja jc YA.heap.size y2.heap.size YD) := NKB.out
    clear NKB
    clear ZB
    have ZB : Hid (Zt y2.heap.size ra ja jc YD) := NZB.out
    clear NZB
    clear KC
    have KC : Hid (Kx rp FC ua uc YB.heap.size y3.heap.size YD) := NKC.out
    clear NKC
    clear ZC
    have ZC : Hid (Zt y3.heap.size rp ua uc YD) := NZC.out
    clear NZC
    have KD : Hid (Kn rp FD va vc YC.heap.size y4.heap.size YD) := hkD.nx hb2
    have ZD : Hid (Zt y4.heap.size rp va vc YD) := hz
    have SD : Hid _ := hb.size
    have ED : Hid _ := hs
    clear hkD hb hb2 hz hs
    have ZA0 := ZA.out.z0
    have ZA1 := ZA.out.z1
    have ZA2 := ZA.out.z2
    have ZB0 := ZB.out.z0
    have ZB1 := ZB.out.z1
    have ZB2 := ZB.out.z2
    go_wp2_with fail
    clear ZA0 ZA1 ZA2
    clear ZB0 ZB1 ZB2
    refine (HSM.out _ _ _ _ _ _ _ _ KA.out.tat KB.out.tat).mono ?_
    rintro e y5 ⟨rfl, hb⟩
    have NTT : Hid (Tp w a b sa sb sc sd y5) := TT.out.nx hb
    have NKO : Hid (Kx a f oa oc lo ho y5) := KO.out.nx hb
    have NKM : Hid (Kx b f ma mc lm hm y5) := KM.out.nx hb
    have NZO : Hid (Zt cO a oa oc y5) := ZO.out.nx hb
    have NZM : Hid (Zt cM b ma mc y5) := ZM.out.nx hb
    have NKA : Hid (Kx ra FA ia ic wc.heap.size y1.heap.size y5) := KA.out.nx hb
    have NZA : Hid (Zt y1.heap.size ra ia ic y5) := ZA.out.nx hb
    have NKB : Hid (Kn ra FB ja jc YA.heap.size y2.heap.size y5) := KB.out.nx hb
    have NZB : Hid (Zt y2.heap.size ra ja jc y5) := ZB.out.nx hb
    have NKC : Hid (Kx rp FC ua uc YB.heap.size y3.heap.size y5) := KC.out.nx hb
    have NZC : Hid (Zt y3.heap.size rp ua uc y5) := ZC.out.nx hb
    have NKD : Hid (Kn rp FD va vc YC.heap.size y4.heap.size y5) := KD.out.nx hb
    have NZD : Hid (Zt y4.heap.size rp va vc y5) := ZD.out.nx hb
    clear TT
    have TT : Hid (Tp w a b sa sb sc sd y5) := NTT.out
    clear NTT
    clear KO
    have KO : Hid (Kx a f oa oc lo ho y5) := NKO.out
    clear NKO
    clear KM
    have KM : Hid (Kx b f ma mc lm hm y5) := NKM.out
    clear NKM
    clear ZO
    have ZO : Hid (Zt cO a oa oc y5) := NZO.out
    clear NZO
    clear ZM
    have ZM : Hid (Zt cM b ma mc y5) := NZM.out
    clear NZM
    clear KA
    have KA : Hid (Kx ra FA ia ic wc.heap.size y1.heap.size y5) := NKA.out
    clear NKA
    clear ZA
    have ZA : Hid (Zt y1.heap.size ra ia ic y5) := NZA.out
    clear NZA
    clear KB
    have KB : Hid (Kn ra FB ja jc YA.heap.size y2.heap.size y5) := NKB.out
    clear NKB
    clear ZB
    have ZB : Hid (Zt y2.heap.size ra ja jc y5) := NZB.out
    clear NZB
    clear KC
    have KC : Hid (Kx rp FC ua uc YB.heap.size y3.heap.size y5) := NKC.out
    clear NKC
    clear ZC
    have ZC : Hid (Zt y3.heap.size rp ua uc y5) := NZC.out
    clear NZC
    clear KD
    have KD : Hid (Kn rp FD va vc YC.heap.size y4.heap.size y5) := NKD.out
    clear NKD
    clear ZD
    have ZD : Hid (Zt y4.heap.size rp va vc y5) := NZD.out
    clear NZD
    clear hb
    have ZC0 := ZC.out.z0
    have ZC1 := ZC.out.z1
    have ZC2 := ZC.out.z2
    have ZD0 := ZD.out.z0
    have ZD1 := ZD.out.z1
    have ZD2 := ZD.out.z2
    go_wp2_with fail
    clear ZC0 ZC1 ZC2
    clear ZD0 ZD1 ZD2
    refine (HSM.out _ _ _ _ _ _ _ _ KC.out.tat KD.out.tat).mono ?_
    rintro e y6 ⟨rfl, hb⟩
    have NTT : Hid (Tp w a b sa sb sc sd y6) := TT.out.nx hb
    have NKO : Hid (Kx a f oa oc lo ho y6) := KO.out.nx hb
    have NKM : Hid (Kx b f ma mc lm hm y6) := KM.out.nx hb
    have NZO : Hid (Zt cO a oa oc y6) := ZO.out.nx hb
    have NZM : Hid (Zt cM b ma mc y6) := ZM.out.nx hb
    have NKA : Hid (Kx ra FA ia ic wc.heap.size y1.heap.size y6) := KA.out.nx hb
    have NZA : Hid (Zt y1.heap.size ra ia ic y6) := ZA.out.nx hb
    have NKB : Hid (Kn ra FB ja jc YA.heap.size y2.heap.size y6) := KB.out.nx hb
    have NZB : Hid (Zt y2.heap.size ra ja jc y6) := ZB.out.nx hb
    have NKC : Hid (Kx rp FC ua uc YB.heap.size y3.heap.size y6) := KC.out.nx hb
    have NZC : Hid (Zt y3.heap.size rp ua uc y6) := ZC.out.nx hb
    have NKD : Hid (Kn rp FD va vc YC.heap.size y4.heap.size y6) := KD.out.nx hb
    have NZD : Hid (Zt y4.heap.size rp va vc y6) := ZD.out.nx hb
    clear TT
    have TT : Hid (Tp w a b sa sb sc sd y6) := NTT.out
    clear NTT
    clear KO
    have KO : Hid (Kx a f oa oc lo ho y6) := NKO.out
    clear NKO
    clear KM
    have KM : Hid (Kx b f ma mc lm hm y6) := NKM.out
    clear NKM
    clear ZO
    have ZO : Hid (Zt cO a oa oc y6) := NZO.out
    clear NZO
    clear ZM
    have ZM : Hid (Zt cM b ma mc y6) := NZM.out
    clear NZM
    clear KA
    have KA : Hid (Kx ra FA ia ic wc.heap.size y1.heap.size y6) := NKA.out
    clear NKA
    clear ZA
    have ZA : Hid (Zt y1.heap.size ra ia ic y6) := NZA.out
    clear NZA
    clear KB
    have KB : Hid (Kn ra FB ja jc YA.heap.size y2.heap.size y6) := NKB.out
    clear NKB
    clear ZB
    have ZB : Hid (Zt y2.heap.size ra ja jc y6) := NZB.out
    clear NZB
    clear KC
    have KC : Hid (Kx rp FC ua uc YB.heap.size y3.heap.size y6) := NKC.out
    clear NKC
    clear ZC
    have ZC : Hid (Zt y3.heap.size rp ua uc y6) := NZC.out
    clear NZC
    clear KD
    have KD : Hid (Kn rp FD va vc YC.heap.size y4.heap.size y6) := NKD.out
    clear NKD
    clear ZD
    have ZD : Hid (Zt y4.heap.size rp va vc y6) := NZD.out
    clear NZD
    clear hb
    have ZA0 := ZA.out.z0
    have ZA1 := ZA.out.z1
    have ZA2 := ZA.out.z2
    go_wp2_with fail
    clear ZA0 ZA1 ZA2
    refine (spoil_kx KA.out).mono ?_
    rintro e y7 ⟨⟨vvy7, rfl⟩, hs⟩
    clear KA
    clear ZA
    clear KB
    clear ZB
    have NTT : Hid (Tp w a b sa sb sc sd y7) := TT.out.sv hs (by have := NQ.out; have := SA.out; have := EA.out; have := SB.out; have := EB.out; have := SC.out; have := EC.out; have := SD.out; have := ED.out; omega)
    have NKO : Hid (Kx a f oa oc lo ho y7) := KO.out.sv hs (by have := NQ.out; have := SA.out; have := EA.out; have := SB.out; have := EB.out; have := SC.out; have := EC.out; have := SD.out; have := ED.out; omega)
    have NKM : Hid (Kx b f ma mc lm hm y7) := KM.out.sv hs (by have := NQ.out; have := SA.out; have := EA.out; have := SB.out; have := EB.out; have := SC.out; have := EC.out; have := SD.out; have := ED.out; omega)
    have NZO : Hid (Zt cO a oa oc y7) := ZO.out.sv hs (by have := NQ.out; have := SA.out; have := EA.out; have := SB.out; have := EB.out; have := SC.out; have := EC.out; have := SD.out; have := ED.out; omega)
    have NZM : Hid (Zt cM b ma mc y7) := ZM.out.sv hs (by have := NQ.out; have := SA.out; have := EA.out; have := SB.out; have := EB.out; have := SC.out; have := EC.out; have := SD.out; have := ED.out; omega)
    have NKC : Hid (Kx rp FC ua uc YB.heap.size y3.heap.size y7) := KC.out.sv hs (by have := NQ.out; have := SA.out; have := EA.out; have := SB.out; have := EB.out; have := SC.out; have := EC.out; have := SD.out; have := ED.out; omega)
    have NZC : Hid (Zt y3.heap.size rp ua uc y7) := ZC.out.sv hs (by have := NQ.out; have := SA.out; have := EA.out; have := SB.out; have := EB.out; have := SC.out; have := EC.out; have := SD.out; have := ED.out; omega)
    have NKD : Hid (Kn rp FD va vc YC.heap.size y4.heap.size y7) := KD.out.sv hs (by have := NQ.out; have := SA.out; have := EA.out; have := SB.out; have := EB.out; have := SC.out; have := EC.out; have := SD.out; have := ED.out; omega)
    have NZD : Hid (Zt y4.heap.size rp va vc y7) := ZD.out.sv hs (by have := NQ.out; have := SA.out; have := EA.out; have := SB.out; have := EB.out; have := SC.out; have := EC.out; have := SD.out; have := ED.out; omega)
    clear TT
    have TT : Hid (Tp w a b sa sb sc sd y7) := NTT.out
    clear NTT
    clear KO
    have KO : Hid (Kx a f oa oc lo ho y7) := NKO.out
    clear NKO
    clear KM
    have KM : Hid (Kx b f ma mc lm hm y7) := NKM.out
    clear NKM
    clear ZO
    have ZO : Hid (Zt cO a oa oc y7) := NZO.out
    clear NZO
    clear ZM
    have ZM : Hid (Zt cM b ma mc y7) := NZM.out
    clear NZM
    clear KC
    have KC : Hid (Kx rp FC ua uc YB.heap.size y3.heap.size y7) := NKC.out
    clear NKC
    clear ZC
    have ZC : Hid (Zt y3.heap.size rp ua uc y7) := NZC.out
    clear NZC
    clear KD
    have KD : Hid (Kn rp FD va vc YC.heap.size y4.heap.size y7) := NKD.out
    clear NKD
    clear ZD
    have ZD : Hid (Zt y4.heap.size rp va vc y7) := NZD.out
    clear NZD
    clear hs
    have ZM0 := ZM.out.z0
    have ZM1 := ZM.out.z1
    have ZM2 := ZM.out.z2
    go_wp2_with fail
    clear ZM0 ZM1 ZM2
    refine (spoil_kx KM.out).mono ?_
    rintro e y8 ⟨⟨vvy8, rfl⟩, hs⟩
    clear KM
    clear ZM
    have NTT : Hid (Tp w a b sa sb sc sd y8) := TT.out.sv hs (by have := NQ.out; have := SA.out; have := EA.out; have := SB.out; have := EB.out; have := SC.out; have := EC.out; have := SD.out; have := ED.out; omega)
    have NKO : Hid (Kx a f oa oc lo ho y8) := KO.out.sv hs (by have := NQ.out; have := SA.out; have := EA.out; have := SB.out; have := EB.out; have := SC.out; have := EC.out; have := SD.out; have := ED.out; omega)
    have NZO : Hid (Zt cO a oa oc y8) := ZO.out.sv hs (by have := NQ.out; have := SA.out; have := EA.out; have := SB.out; have := EB.out; have := SC.out; have := EC.out; have := SD.out; have := ED.out; omega)
    have NKC : Hid (Kx rp FC ua uc YB.heap.size y3.heap.size y8) := KC.out.sv hs (by have := NQ.out; have := SA.out; have := EA.out; have := SB.out; have := EB.out; have := SC.out; have := EC.out; have := SD.out; have := ED.out; omega)
    have NZC : Hid (Zt y3.heap.size rp ua uc y8) := ZC.out.sv hs (by have := NQ.out; have := SA.out; have := EA.out; have := SB.out; have := EB.out; have := SC.out; have := EC.out; have := SD.out; have := ED.out; omega)
    have NKD : Hid (Kn rp FD va vc YC.heap.size y4.heap.size y8) := KD.out.sv hs (by have := NQ.out; have := SA.out; have := EA.out; have := SB.out; have := EB.out; have := SC.out; have := EC.out; have := SD.out; have := ED.out; omega)
    have NZD : Hid (Zt y4.heap.size rp va vc y8) := ZD.out.sv hs (by have := NQ.out; have := SA.out; have := EA.out; have := SB.out; have := EB.out; have := SC.out; have := EC.out; have := SD.out; have := ED.out; omega)
    clear TT
    have TT : Hid (Tp w a b sa sb sc sd y8) := NTT.out
    clear NTT
    clear KO
    have KO : Hid (Kx a f oa oc lo ho y8) := NKO.out
    clear NKO
    clear ZO
    have ZO : Hid (Zt cO a oa oc y8) := NZO.out
    clear NZO
    clear KC
    have KC : Hid (Kx rp FC ua uc YB.heap.size y3.heap.size y8) := NKC.out
    clear NKC
    clear ZC
    have ZC : Hid (Zt y3.heap.size rp ua uc y8) := NZC.out
    clear NZC
    clear KD
    have KD : Hid (Kn rp FD va vc YC.heap.size y4.heap.size y8) := NKD.out
    clear NKD
    clear ZD
    have ZD : Hid (Zt y4.heap.size rp va vc y8) := NZD.out
    clear NZD
    clear hs
    have ZO0 := ZO.out.z0
    have ZO1 := ZO.out.z1
    have ZO2 := ZO.out.z2
    obtain ⟨e0, e1, e2, g0, g1, g2⟩ := TT.out.facts
    go_wp2_with fail
    clear ZO0 ZO1 ZO2
    clear e0 e1 e2 g0 g1 g2
    refine (HSM.out _ _ _ _ _ _ _ _ KO.out.tat (HKA.out _ TT.out)).mono ?_
    rintro e y9 ⟨rfl, hb⟩
    have NTT : Hid (Tp w a b sa sb sc sd y9) := TT.out.nx hb
    have NKO : Hid (Kx a f oa oc lo ho y9) := KO.out.nx hb
    have NZO : Hid (Zt cO a oa oc y9) := ZO.out.nx hb
    have NKC : Hid (Kx rp FC ua uc YB.heap.size y3.heap.size y9) := KC.out.nx hb
    have NZC : Hid (Zt y3.heap.size rp ua uc y9) := ZC.out.nx hb
    have NKD : Hid (Kn rp FD va vc YC.heap.size y4.heap.size y9) := KD.out.nx hb
    have NZD : Hid (Zt y4.heap.size rp va vc y9) := ZD.out.nx hb
    clear TT
    have TT : Hid (Tp w a b sa sb sc sd y9) := NTT.out
    clear NTT
    clear KO
    have KO : Hid (Kx a f oa oc lo ho y9) := NKO.out
    clear NKO
    clear ZO
    have ZO : Hid (Zt cO a oa oc y9) := NZO.out
    clear NZO
    clear KC
    have KC : Hid (Kx rp FC ua uc YB.heap.size y3.heap.size y9) := NKC.out
    clear NKC
    clear ZC
    have ZC : Hid (Zt y3.heap.size rp ua uc y9) := NZC.out
    clear NZC
    clear KD
    have KD : Hid (Kn rp FD va vc YC.heap.size y4.heap.size y9) := NKD.out
    clear NKD
    clear ZD
    have ZD : Hid (Zt y4.heap.size rp va vc y9) := NZD.out
    clear NZD
    clear hb
    have ZC0 := ZC.out.z0
    have ZC1 := ZC.out.z1
    have ZC2 := ZC.out.z2
    have ZD0 := ZD.out.z0
    have ZD1 := ZD.out.z1
    have ZD2 := ZD.out.z2
    go_wp2_with fail
    clear ZC0 ZC1 ZC2
    clear ZD0 ZD1 ZD2
    refine (HSM.out _ _ _ _ _ _ _ _ KC.out.tat KD.out.tat).mono ?_
    rintro e z1 ⟨rfl, hb⟩
    have NTT : Hid (Tp w a b sa sb sc sd z1) := TT.out.nx hb
    have NKO : Hid (Kx a f oa oc lo ho z1) := KO.out.nx hb
    have NZO : Hid (Zt cO a oa oc z1) := ZO.out.nx hb
    have NKC : Hid (Kx rp FC ua uc YB.heap.size y3.heap.size z1) := KC.out.nx hb
    have NZC : Hid (Zt y3.heap.size rp ua uc z1) := ZC.out.nx hb
    have NKD : Hid (Kn rp FD va vc YC.heap.size y4.heap.size z1) := KD.out.nx hb
    have NZD : Hid (Zt y4.heap.size rp va vc z1) := ZD.out.nx hb
    clear TT
    have TT : Hid (Tp w a b sa sb sc sd z1) := NTT.out
    clear NTT
    clear KO
    have KO : Hid (Kx a f oa oc lo ho z1) := NKO.out
    clear NKO
    clear ZO
    have ZO : Hid (Zt cO a oa oc z1) := NZO.out
    clear NZO
    clear KC
    have KC : Hid (Kx rp FC ua uc YB.heap.size y3.heap.size z1) := NKC.out
    clear NKC
    clear ZC
    have ZC : Hid (Zt y3.heap.size rp ua uc z1) := NZC.out
    clear NZC
    clear KD
    have KD : Hid (Kn rp FD va vc YC.heap.size y4.heap.size z1) := NKD.out
    clear NKD
    clear ZD
    have ZD : Hid (Zt y4.heap.size rp va vc z1) := NZD.out
    clear NZD
    clear hb
    have ZO0 := ZO.out.z0
    have ZO1 := ZO.out.z1
    have ZO2 := ZO.out.z2
    go_wp2_with fail
    clear ZO0 ZO1 ZO2
    refine (spoil_kx KO.out).mono ?_
    rintro e z2 ⟨⟨vvz2, rfl⟩, hs⟩
    clear KO
    clear ZO
    have NTT : Hid (Tp w a b sa sb sc sd z2) := TT.out.sv hs (by have := NQ.out; have := SA.out; have := EA.out; have := SB.out; have := EB.out; have := SC.out; have := EC.out; have := SD.out; have := ED.out; omega)
    have NKC : Hid (Kx rp FC ua uc YB.heap.size y3.heap.size z2) := KC.out.sv hs (by have := NQ.out; have := SA.out; have := EA.out; have := SB.out; have := EB.out; have := SC.out; have := EC.out; have := SD.out; have := ED.out; omega)
    have NZC : Hid (Zt y3.heap.size rp ua uc z2) := ZC.out.sv hs (by have := NQ.out; have := SA.out; have := EA.out; have := SB.out; have := EB.out; have := SC.out; have := EC.out; have := SD.out; have := ED.out; omega)
    have NKD : Hid (Kn rp FD va vc YC.heap.size y4.heap.size z2) := KD.out.sv hs (by have := NQ.out; have := SA.out; have := EA.out; have := SB.out; have := EB.out; have := SC.out; have := EC.out; have := SD.out; have := ED.out; omega)
    have NZD : Hid (Zt y4.heap.size rp va vc z2) := ZD.out.sv hs (by have := NQ.out; have := SA.out; have := EA.out; have := SB.out; have := EB.out; have := SC.out; have := EC.out; have := SD.out; have := ED.out; omega)
    clear TT
    have TT : Hid (Tp w a b sa sb sc sd z2) := NTT.out
    clear NTT
    clear KC
    have KC : Hid (Kx rp FC ua uc YB.heap.size y3.heap.size z2) := NKC.out
    clear NKC
    clear ZC
    have ZC : Hid (Zt y3.heap.size rp ua uc z2) := NZC.out
    clear NZC
    clear KD
    have KD : Hid (Kn rp FD va vc YC.heap.size y4.heap.size z2) := NKD.out
    clear NKD
    clear ZD
    have ZD : Hid (Zt y4.heap.size rp va vc z2) := NZD.out
    clear NZD
    clear hs
    go_wp2_with fail
    refine (HALV.out _ TT.out).mono ?_
    rintro e z3 ⟨rfl, hb⟩
    have NTT : Hid (Tp w a b sa sb sc sd z3) := TT.out.nx hb
    have NKC : Hid (Kx rp FC ua uc YB.heap.size y3.heap.size z3) := KC.out.nx hb
    have NZC : Hid (Zt y3.heap.size rp ua uc z3) := ZC.out.nx hb
    have NKD : Hid (Kn rp FD va vc YC.heap.size y4.heap.size z3) := KD.out.nx hb
    have NZD : Hid (Zt y4.heap.size rp va vc z3) := ZD.out.nx hb
    clear TT
    have TT : Hid (Tp w a b sa sb sc sd z3) := NTT.out
    clear NTT
    clear KC
    have KC : Hid (Kx rp FC ua uc YB.heap.size y3.heap.size z3) := NKC.out
    clear NKC
    clear ZC
    have ZC : Hid (Zt y3.heap.size rp ua uc z3) := NZC.out
    clear NZC
    clear KD
    have KD : Hid (Kn rp FD va vc YC.heap.size y4.heap.size z3) := NKD.out
    clear NKD
    clear ZD
    have ZD : Hid (Zt y4.heap.size rp va vc z3) := NZD.out
    clear NZD
    clear hb
    have ZC0 := ZC.out.z0
    have ZC1 := ZC.out.z1
    have ZC2 := ZC.out.z2
    have ZD0 := ZD.out.z0
    have ZD1 := ZD.out.z1
    have ZD2 := ZD.out.z2
    go_wp2_with fail
    clear ZC0 ZC1 ZC2
    clear ZD0 ZD1 ZD2
    refine (HSM.out _ _ _ _ _ _ _ _ KC.out.tat KD.out.tat).mono ?_
    rintro e z4 ⟨rfl, hb⟩
    have NTT : Hid (Tp w a b sa sb sc sd z4) := TT.out.nx hb
    have NKC : Hid (Kx rp FC ua uc YB.heap.size y3.heap.size z4) := KC.out.nx hb
    have NZC : Hid (Zt y3.heap.size rp ua uc z4) := ZC.out.nx hb
    have NKD : Hid (Kn rp FD va vc YC.heap.size y4.heap.size z4) := KD.out.nx hb
    have NZD : Hid (Zt y4.heap.size rp va vc z4) := ZD.out.nx hb
    clear TT
    have TT : Hid (Tp w a b sa sb sc sd z4) := NTT.out
    clear NTT
    clear KC
    have KC : Hid (Kx rp FC ua uc YB.heap.size y3.heap.size z4) := NKC.out
    clear NKC
    clear ZC
    have ZC : Hid (Zt y3.heap.size rp ua uc z4) := NZC.out
    clear NZC
    clear KD
    have KD : Hid (Kn rp FD va vc YC.heap.size y4.heap.size z4) := NKD.out
    clear NKD
    clear ZD
    have ZD : Hid (Zt y4.heap.size rp va vc z4) := NZD.out
    clear NZD
    clear hb
    go_wp2
    go_ret
    exact ⟨rfl, TT.out.bel⟩
end Go.Proofs.YtlnlkbkmnkjbhaaDoor
