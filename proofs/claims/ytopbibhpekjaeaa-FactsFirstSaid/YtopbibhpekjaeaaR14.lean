/- The first bytes of any grammar, by the document's own answer: the walk. -/
import Derived.Test.YtopbibhpekjaeaaR13
import Derived.Deep.CutBlock
namespace Go.Proofs.Ytopbibhpekjaeaa
open Go.RowKit

set_option maxRecDepth 100000 in
set_option maxHeartbeats 16000000 in
theorem refFirst_row (G : Gm) (a : Option Addr) (c : Nat) (w : World) (hR : RAt w w.heap.size a G.rules) :
    Calls Try.prog 27 #[.agg #[.int .i64 G.nts, .int .i64 G.start, .slice a G.rules.length c]] w fun e w' => (∃ v l, e = .returned (.tuple #[v, .int .i64 G.code]) ∧ w'.ownsRow w.heap.size 49 4 v l.length (setsV l) ∧ FirstIs G l) ∧ Below w.heap.size w w' := by
  obtain ⟨i0, hinf, hz0, hz1, hz2⟩ := info_parts info49
  have hsets := hR.sets
  obtain ⟨W0, hW0⟩ : ∃ W0, w.alloc (.cells #[.int .i64 G.nts, .int .i64 G.start, .slice a G.rules.length c] 24) = W0 := ⟨_, rfl⟩
  have hs0 : W0.heap.size = w.heap.size + 1 := by rw [← hW0]; simp
  have hB0 : Below w.heap.size w W0 := by rw [← hW0]; exact (Below.refl _ _).alloc (Nat.le_refl _) _
  have gG : GB w.heap.size G a c W0 := ⟨by rw [← hW0]; exact cell_new 0 rfl, by rw [← hW0]; exact cell_new 1 rfl, by rw [← hW0]; exact cell_new 2 rfl, (hR.keep hB0).mono (by omega), by omega⟩
  have c0 := gG.c0
  have c1 := gG.c1
  have c2 := gG.c2
  have H20 : Hid _ := fun (_ : Unit) => refNullable_row G a c W0 gG.rat
  go_enter Try.func27, Try.ntmps27
  go_wp2_with (go_at_call 20; refine (H20.out ()).mono ?_)
  rintro e W1 ⟨⟨v, so, rfl, hrow, hI⟩, hb1⟩
  replace gG := gG.below hb1
  have hB1 := below_of hB0 hb1
  clear c0 c1 c2 H20 hW0 hB0 hs0 hb1 hR
  rcases hI with ⟨hno, rfl⟩ | ⟨hok, hl, hm⟩
  · rw [← code_no hno]
    go_wp2
    go_ret2
    exact ⟨⟨.slice none 0 0, [], by rw [← code_no hno]; rfl, World.ownsRow_nil _ _ _ _, .inl ⟨hno, rfl⟩⟩, hB1⟩
  · rw [← code_ok hok]
    obtain ⟨N, S, hN, hS, _, hOk⟩ := ok_of hok
    have hn1 := hOk.n1
    have hn2 := hOk.n2
    have hlen := hOk.len
    have hlN : so.length = N := by rw [hl, hN, Int.toNat_natCast]
    rw [hlN] at hrow
    obtain ⟨gm, cm, rfl, hg1, hg2⟩ := row_at hrow (by omega)
    have HNt : Hid (G.nts.toNat = N) := by show _ = _; rw [hN, Int.toNat_natCast]
    have d0 : W1.cell? ⟨w.heap.size, 0, none⟩ = some (.int .i64 (N : Int)) := by rw [← hN]; exact gG.c0
    have hlt1 := gG.lt
    have hR1 := gG.rat
    have d2 := gG.c2
    clear hN hS hl hlN gG
    go_wp2
    go_loopw [6, 7] (fun lv iv W => ∃ k : Nat, k ≤ N ∧ iv = .int .i64 k ∧ W.ownsRow W1.heap.size 49 4 lv k (setsV (List.replicate k St.zero)) ∧ Below W1.heap.size W1 W) (fun _ iv _ => N - (intOf iv).toNat)
    case atStart => exact ⟨0, by omega, rfl, World.ownsRow_nil _ _ _ _, Below.refl _ _⟩
    case round =>
      obtain ⟨k, hk, rfl, hor, hB⟩ := hrel
      have hsz := hB.size
      have f0 := (hB.cell (p := ⟨w.heap.size, 0, none⟩) hlt1).trans d0
      by_cases hlt : k < N
      · have hkI : (k : Int) < N := by omega
        go_wp2_with (at_builtin; refine wpList_append_own _ rfl _ _ 37 rfl W1.heap.size 49 i0 (.agg #[.int .u64 0, .int .u64 0, .int .u64 0, .int .u64 0]) 4 32 Try.underlying37 hinf hz0 hz1 hz2 rfl (by decide) _ _ _ rfl (hor.alloc _) ⟨wr.heap.size, 0, none⟩ 1 1 [.int .u64 0, .int .u64 0, .int .u64 0, .int .u64 0] rfl rfl ?ca1 ?ca2 ?ca3 ?ca4 ?ca5 ?_)
        try case ca1 => (intro j u hu; have hadd : (⟨wr.heap.size, 0, none⟩ : Addr).add j = ⟨wr.heap.size, j, none⟩ := (by unfold Addr.add; split <;> simp_all); rw [hadd]; exact cell_new j (by simpa using hu))
        case ca2 => first | rfl | (intro u hu; simp at hu; subst hu; rfl)
        case ca3 => unfold maxLen; omega
        case ca4 => omega
        case ca5 => first | omega | (simp; omega)
        intro v' w3 hown' hgrow _
        have hb3 : Below W1.heap.size wr w3 := ((Below.refl _ wr).alloc hsz (.cells #[.int .u64 0, .int .u64 0, .int .u64 0, .int .u64 0] 49)).grown hgrow (by simp; omega) (fun q hq => (hor.lt q hq).1)
        obtain ⟨g', cap', rfl, _⟩ := row_at hown' (by omega)
        go_wp2
        go_roundw
        case rel => exact ⟨k + 1, by omega, by go_num, by rw [List.replicate_succ', setsV, List.flatMap_append]; exact hown', hB.trans hb3⟩
        case measure => simp [intOf]; omega
      · obtain rfl : k = N := by omega
        obtain ⟨go, co, rfl, hgo1, hgo2⟩ := row_at hor (by omega)
        clear hlt hk
        go_wp2
        clear f0
        go_loopw [8] (fun nv W => ∃ n : Nat, n ≤ k ∧ nv = .int .i64 n ∧ W.ownsRow W1.heap.size 49 4 (.slice (some ⟨go, 0, none⟩) k co) k (setsV (frR k G.rules so n)) ∧ Below W1.heap.size W1 W) (fun nv _ => k - (intOf nv).toNat)
        case atStart => exact ⟨0, by omega, rfl, hor, hB⟩
        case round =>
          clear hor hB hgo2
          obtain ⟨n, hn, rfl, hor, hB⟩ := hrel
          have f0 := (hB.cell (p := ⟨w.heap.size, 0, none⟩) hlt1).trans d0
          by_cases hltn : n < k
          · have hnI : (n : Int) < k := by omega
            have hFS := frR_ok hm hOk hsets n
            have HE : Hid (frR k G.rules so (n + 1) = frL G.rules so (frR k G.rules so n) G.rules.length) := rfl
            generalize frR k G.rules so n = out at *
            go_wp2
            clear f0
            go_loopw [9] (fun iv W => ∃ i : Nat, i ≤ G.rules.length ∧ iv = .int .i64 i ∧ W.ownsRow W1.heap.size 49 4 (.slice (some ⟨go, 0, none⟩) k co) k (setsV (frL G.rules so out i)) ∧ Below W1.heap.size W1 W) (fun iv _ => G.rules.length - (intOf iv).toNat)
            case atStart => exact ⟨0, by omega, rfl, hor, hB⟩
            case round =>
              clear hor hB
              obtain ⟨i, hi, rfl, hor, hB⟩ := hrel
              have f2 := (hB.cell (p := ⟨w.heap.size, 2, none⟩) hlt1).trans d2
              have hszB := hB.size
              by_cases hlti : i < G.rules.length
              · obtain ⟨r, hr⟩ : ∃ r, G.rules[i]? = some r := ⟨G.rules[i], by simp [hlti]⟩
                obtain ⟨b, o, sa, sc, rfl, hb, hK, e0', e1'⟩ := hR1.cells i r hr
                have e0 := (hB.cell (p := ⟨b, o + i * 2, none⟩) hb).trans e0'
                have e1 := (hB.cell (p := ⟨b, o + i * 2 + 1, none⟩) hb).trans e1'
                clear e0' e1'
                have hiI : (i : Int) < G.rules.length := by omega
                have hrm := List.mem_of_getElem? hr
                have hlh := hOk.lhs r hrm
                have h80 := hOk.rhs r hrm
                have hsyr := hOk.sym r hrm
                obtain ⟨m, hmE⟩ : ∃ m : Nat, r.lhs = m := ⟨r.lhs.toNat, by omega⟩
                have hmN : m < k := by omega
                have hmI : (m : Int) < k := by omega
                have hFi := (frL_ok hm hOk hsets hFS i (by omega)).1
                have HE2 : Hid (frL G.rules so out (i + 1) = frO so (frL G.rules so out i) m r.rhs r.rhs.length) := by
                  show _ = _
                  have e1 : rhsAt G.rules i = r.rhs := by unfold rhsAt; rw [hr]
                  have e2 : lhsAt G.rules i = r.lhs := by unfold lhsAt; rw [hr]
                  rw [frL, e1, e2, hmE]; simp
                generalize frL G.rules so out i = cur at *
                rw [hmE] at e0
                obtain ⟨X, hX⟩ : ∃ X, wr.heap.size = X := ⟨_, rfl⟩
                obtain ⟨W5, hW5⟩ : ∃ W5, wr.alloc (.cells #[.int .i64 (m : Int), .slice sa r.rhs.length sc] 52) = W5 := ⟨_, rfl⟩
                have hB5 : Below wr.heap.size wr W5 := by rw [← hW5]; exact (Below.refl _ _).alloc (Nat.le_refl _) _
                have hs5 : W5.heap.size = X + 1 := by rw [← hW5, ← hX]; simp
                have hgoX : go < X := by rw [← hX]; exact (hor.lt go rfl).2
                have hM5 : FM W1 go k co X m (.slice sa r.rhs.length sc) cur W5 := ⟨row_below hor hB5, hB.trans (hB5.mono hszB), by rw [← hW5, ← hX]; exact cell_new 0 rfl, by rw [← hW5, ← hX]; exact cell_new 1 rfl, by omega⟩
                have hbI : b < wr.heap.size := by omega
                go_wp2
                clear e0 e1 f2 hW5 hB5 hs5 hor hB hX hbI
                go_loopw [11, 12] (fun av kv W => ∃ j : Nat, j ≤ r.rhs.length ∧ kv = .int .i64 j ∧ av = .bool (ahd so r.rhs j) ∧ FM W1 go k co X m (.slice sa r.rhs.length sc) (frO so cur m r.rhs j) W) (fun _ kv _ => r.rhs.length - (intOf kv).toNat)
                case atStart => exact ⟨0, by omega, rfl, rfl, hM5⟩
                case round =>
                  clear hM5
                  obtain ⟨j, hj, rfl, rfl, hM⟩ := hrel
                  have y0 := hM.b0
                  have y1 := hM.b1
                  have hszM := hM.bel.size
                  by_cases hltj : j < r.rhs.length
                  · have hjI : (j : Int) < r.rhs.length := by omega
                    cases hah : ahd so r.rhs j with
                    | false =>
                      have HEnd : Hid (frO so cur m r.rhs r.rhs.length = frO so cur m r.rhs j) := by
                        show _ = _
                        have := frO_stop (out := cur) (m := m) hah (r.rhs.length - j)
                        rwa [show j + (r.rhs.length - j) = r.rhs.length by omega] at this
                      rw [HEnd.out] at HE2
                      clear hah
                      go_wp2
                      exact ⟨⟨i + 1, by omega, by go_num, by rw [HE2.out]; exact hM.row, hM.bel⟩, by simp [intOf]; omega⟩
                    | true =>
                      obtain ⟨s, hs⟩ : ∃ s, r.rhs[j]? = some s := ⟨r.rhs[j], by simp [hltj]⟩
                      obtain ⟨b2, o2, rfl, hb2, hso', k0, k1, k2, k3, k4⟩ := ((hK.keep hM.bel)).cells j s hs
                      have hss := hsyr s (List.mem_of_getElem? hs)
                      have hFj := frO_snd hm hFi hrm hmE hmN (hsets r hrm) j
                      have HStep : Hid (frO so cur m r.rhs (j + 1) = (frO so cur m r.rhs j).set m (((frO so cur m r.rhs j).getD m St.zero).or (valF (frO so cur m r.rhs j) s))) := frO_step hs hah
                      have HAh : Hid (ahd so r.rhs (j + 1) = symSo pN so s) := by show _ = _; rw [ahd_succ so hs, hah]; simp
                      have hvok : (valF (frO so cur m r.rhs j) s).ok := by
                        unfold valF; split
                        · exact hFj.ok _
                        · exact hso'
                      have hmok := hFj.ok m
                      have hcl := hFj.len
                      generalize frO so cur m r.rhs j = cj at *
                      obtain ⟨z0, z1, z2, z3⟩ := set_cells hM.row hcl hmN
                      have hgl := (hM.row.lt go rfl).2
                      have hb2I : b2 < wr.heap.size := by omega
                      have hXI : X < wr.heap.size := hM.lt
                      clear hah hs
                      by_cases hneg : s.nt < 0
                      · have hneg' : decide (0 ≤ s.nt) = false := by simp; omega
                        have hvE : valF cj s = s.set := by unfold valF; rw [if_neg (by omega)]
                        rw [hvE] at HStep hvok
                        obtain ⟨vv, hvv⟩ : ∃ vv, s.set = vv := ⟨_, rfl⟩
                        rw [hvv] at HStep hvok k1 k2 k3 k4
                        have HVV : Hid _ := hvv
                        clear hvE hvv
                        obtain ⟨W7, hW7⟩ : ∃ W7, wr.alloc (.cells #[.int .u64 vv.a, .int .u64 vv.b, .int .u64 vv.c, .int .u64 vv.d] 49) = W7 := ⟨_, rfl⟩
                        have hB7 : Below wr.heap.size wr W7 := by rw [← hW7]; exact (Below.refl _ _).alloc (Nat.le_refl _) _
                        have hs7 : W7.heap.size = wr.heap.size + 1 := by rw [← hW7]; simp
                        have hM7 := hM.below hB7
                        have v0 : W7.cell? ⟨wr.heap.size, 0, none⟩ = some (.int .u64 vv.a) := by rw [← hW7]; exact cell_new 0 rfl
                        have v1 : W7.cell? ⟨wr.heap.size, 1, none⟩ = some (.int .u64 vv.b) := by rw [← hW7]; exact cell_new 1 rfl
                        have v2 : W7.cell? ⟨wr.heap.size, 2, none⟩ = some (.int .u64 vv.c) := by rw [← hW7]; exact cell_new 2 rfl
                        have v3 : W7.cell? ⟨wr.heap.size, 3, none⟩ = some (.int .u64 vv.d) := by rw [← hW7]; exact cell_new 3 rfl
                        have HU : Hid _ := fun (W : World) => refOr_any (cj.getD m St.zero) vv W hmok hvok
                        have HPUT : Hid (∀ {W : World}, Below W7.heap.size W7 W → FM W1 go k co X m (.slice (some ⟨b2, o2, none⟩) r.rhs.length sc) (cj.set m ((cj.getD m St.zero).or vv)) (put4 W go (m * 4) ((cj.getD m St.zero).or vv))) := fun hb => (hM7.below hb).put hgo1 (by omega) (by omega) _
                        have t0 := (hB7.cell (p := ⟨go, m * 4, none⟩) hgl).trans z0
                        have t1 := (hB7.cell (p := ⟨go, m * 4 + 1, none⟩) hgl).trans z1
                        have t2 := (hB7.cell (p := ⟨go, m * 4 + 2, none⟩) hgl).trans z2
                        have t3 := (hB7.cell (p := ⟨go, m * 4 + 3, none⟩) hgl).trans z3
                        have fr0 := hM7.row.frozenAt (m * 4)
                        have fr1 := hM7.row.frozenAt (m * 4 + 1)
                        have fr2 := hM7.row.frozenAt (m * 4 + 2)
                        have fr3 := hM7.row.frozenAt (m * 4 + 3)
                        have x0 := hM7.b0
                        have x1 := hM7.b1
                        have kx0 := (hB7.cell (p := ⟨b2, o2 + j * 5, none⟩) hb2I).trans k0
                        have hl6 : go < W7.heap.size := by omega
                        have hl7 : X < W7.heap.size := by omega
                        obtain ⟨u, hu⟩ : ∃ u, (cj.getD m St.zero).or vv = u := ⟨_, rfl⟩
                        rw [hu] at HU HPUT HStep
                        clear hu
                        generalize cj.getD m St.zero = q at *
                        generalize cj.set m u = cn at *
                        go_wp2
                        go_cut [99] from 50 to 99 (fun _ wc => FM W1 go k co X m (.slice (some ⟨b2, o2, none⟩) r.rhs.length sc) cn wc)
                        case first =>
                          go_region_with (go_at_call 50; refine (HU.out _).mono ?_; rintro e w3 ⟨rfl, hb3⟩; have q0 := (hb3.cell (p := ⟨go, m * 4, none⟩) hl6).trans t0; have q1 := (hb3.cell (p := ⟨go, m * 4 + 1, none⟩) hl6).trans t1; have q2 := (hb3.cell (p := ⟨go, m * 4 + 2, none⟩) hl6).trans t2; have q3 := (hb3.cell (p := ⟨go, m * 4 + 3, none⟩) hl6).trans t3; have r0 := (hb3.frozen (p := ⟨go, m * 4, none⟩) hl6).trans fr0; have r1 := (hb3.frozen (p := ⟨go, m * 4 + 1, none⟩) hl6).trans fr1; have r2 := (hb3.frozen (p := ⟨go, m * 4 + 2, none⟩) hl6).trans fr2; have r3 := (hb3.frozen (p := ⟨go, m * 4 + 3, none⟩) hl6).trans fr3; have q5 := (hb3.cell (p := ⟨X, 0, none⟩) hl7).trans x0)
                          all_goals go_wp2_with fail
                          all_goals go_meet
                          all_goals exact HPUT.out ⟨hb3.os, hb3.tape, hb3.output, hb3.size, hb3.block⟩
                        case rest =>
                          have hMc : FM W1 go k co X m (.slice (some ⟨b2, o2, none⟩) r.rhs.length sc) cn wc := hcut
                          have xx1 := hMc.b1
                          have hwsz := hMc.bel.size
                          have kk : ∀ p, W1.cell? ⟨b2, p, none⟩ = wr.cell? ⟨b2, p, none⟩ := fun p => (hM.bel.cell (p := ⟨b2, p, none⟩) hb2).symm
                          have kc : ∀ p, wc.cell? ⟨b2, p, none⟩ = wr.cell? ⟨b2, p, none⟩ := fun p => (hMc.bel.cell (p := ⟨b2, p, none⟩) hb2).trans (kk p)
                          rw [← kc] at k0 k1 k2 k3 k4
                          have H51 : Hid _ := fun (_ : Unit) => so_any s true so gm k cm wc (by omega) (by omega) (fun m h => (hMc.bel.cell (p := ⟨gm, m, none⟩) hg2).trans (getD_cell hrow m h))
                          have hpp : pOf true = pN := rfl
                          rw [hpp] at H51
                          rw [HVV.out] at H51
                          clear kk kc hcut
                          go_wp2_with (go_at_call 51; refine (H51.out ()).mono ?_; rintro e w2 ⟨rfl, hbz⟩)
                          exact ⟨⟨j + 1, by omega, by go_num, by rw [HAh.out], by rw [HStep.out]; exact hMc.below hbz⟩, by simp [intOf]; omega⟩
                      · obtain ⟨x, hx⟩ : ∃ x : Nat, s.nt = x := ⟨s.nt.toNat, by omega⟩
                        have hxN : x < k := by omega
                        have hxI : (x : Int) < k := by omega
                        have hvE : valF cj s = cj.getD x St.zero := by unfold valF; rw [if_pos (by omega), hx]; simp
                        rw [hvE] at HStep hvok
                        obtain ⟨p0, p1, p2, p3⟩ := set_cells hM.row hcl hxN
                        obtain ⟨vv, hvv⟩ : ∃ vv, cj.getD x St.zero = vv := ⟨_, rfl⟩
                        rw [hvv] at HStep hvok p0 p1 p2 p3
                        rw [hx] at k0
                        have HVV : Hid (s.nt = (x : Int)) := hx
                        have hBa : Below wr.heap.size wr (wr.alloc (.cells #[.int .u64 s.set.a, .int .u64 s.set.b, .int .u64 s.set.c, .int .u64 s.set.d] 49)) := (Below.refl _ _).alloc (Nat.le_refl _) _
                        have na1 := (hBa.cell (p := ⟨X, 1, none⟩) hXI).trans y1
                        have na2 := (hBa.cell (p := ⟨b2, o2 + j * 5, none⟩) hb2I).trans k0
                        have na3 := (hBa.cell (p := ⟨go, x * 4, none⟩) hgl).trans p0
                        have na4 := (hBa.cell (p := ⟨go, x * 4 + 1, none⟩) hgl).trans p1
                        have na5 := (hBa.cell (p := ⟨go, x * 4 + 2, none⟩) hgl).trans p2
                        have na6 := (hBa.cell (p := ⟨go, x * 4 + 3, none⟩) hgl).trans p3
                        clear hvE hvv hx hBa p0 p1 p2 p3
                        obtain ⟨W7, hW7⟩ : ∃ W7, wr.alloc (.cells #[.int .u64 vv.a, .int .u64 vv.b, .int .u64 vv.c, .int .u64 vv.d] 49) = W7 := ⟨_, rfl⟩
                        have hB7 : Below wr.heap.size wr W7 := by rw [← hW7]; exact (Below.refl _ _).alloc (Nat.le_refl _) _
                        have hs7 : W7.heap.size = wr.heap.size + 1 := by rw [← hW7]; simp
                        have hM7 := hM.below hB7
                        have v0 : W7.cell? ⟨wr.heap.size, 0, none⟩ = some (.int .u64 vv.a) := by rw [← hW7]; exact cell_new 0 rfl
                        have v1 : W7.cell? ⟨wr.heap.size, 1, none⟩ = some (.int .u64 vv.b) := by rw [← hW7]; exact cell_new 1 rfl
                        have v2 : W7.cell? ⟨wr.heap.size, 2, none⟩ = some (.int .u64 vv.c) := by rw [← hW7]; exact cell_new 2 rfl
                        have v3 : W7.cell? ⟨wr.heap.size, 3, none⟩ = some (.int .u64 vv.d) := by rw [← hW7]; exact cell_new 3 rfl
                        have HU : Hid _ := fun (W : World) => refOr_any (cj.getD m St.zero) vv W hmok hvok
                        have HPUT : Hid (∀ {W : World}, Below W7.heap.size W7 W → FM W1 go k co X m (.slice (some ⟨b2, o2, none⟩) r.rhs.length sc) (cj.set m ((cj.getD m St.zero).or vv)) (put4 W go (m * 4) ((cj.getD m St.zero).or vv))) := fun hb => (hM7.below hb).put hgo1 (by omega) (by omega) _
                        have t0 := (hB7.cell (p := ⟨go, m * 4, none⟩) hgl).trans z0
                        have t1 := (hB7.cell (p := ⟨go, m * 4 + 1, none⟩) hgl).trans z1
                        have t2 := (hB7.cell (p := ⟨go, m * 4 + 2, none⟩) hgl).trans z2
                        have t3 := (hB7.cell (p := ⟨go, m * 4 + 3, none⟩) hgl).trans z3
                        have fr0 := hM7.row.frozenAt (m * 4)
                        have fr1 := hM7.row.frozenAt (m * 4 + 1)
                        have fr2 := hM7.row.frozenAt (m * 4 + 2)
                        have fr3 := hM7.row.frozenAt (m * 4 + 3)
                        have x0 := hM7.b0
                        have x1 := hM7.b1
                        have kx0 := (hB7.cell (p := ⟨b2, o2 + j * 5, none⟩) hb2I).trans k0
                        have hl6 : go < W7.heap.size := by omega
                        have hl7 : X < W7.heap.size := by omega
                        obtain ⟨u, hu⟩ : ∃ u, (cj.getD m St.zero).or vv = u := ⟨_, rfl⟩
                        rw [hu] at HU HPUT HStep
                        clear hu
                        generalize cj.getD m St.zero = q at *
                        generalize cj.set m u = cn at *
                        go_wp2
                        go_cut [99] from 50 to 99 (fun _ wc => FM W1 go k co X m (.slice (some ⟨b2, o2, none⟩) r.rhs.length sc) cn wc)
                        case first =>
                          go_region_with (go_at_call 50; refine (HU.out _).mono ?_; rintro e w3 ⟨rfl, hb3⟩; have q0 := (hb3.cell (p := ⟨go, m * 4, none⟩) hl6).trans t0; have q1 := (hb3.cell (p := ⟨go, m * 4 + 1, none⟩) hl6).trans t1; have q2 := (hb3.cell (p := ⟨go, m * 4 + 2, none⟩) hl6).trans t2; have q3 := (hb3.cell (p := ⟨go, m * 4 + 3, none⟩) hl6).trans t3; have r0 := (hb3.frozen (p := ⟨go, m * 4, none⟩) hl6).trans fr0; have r1 := (hb3.frozen (p := ⟨go, m * 4 + 1, none⟩) hl6).trans fr1; have r2 := (hb3.frozen (p := ⟨go, m * 4 + 2, none⟩) hl6).trans fr2; have r3 := (hb3.frozen (p := ⟨go, m * 4 + 3, none⟩) hl6).trans fr3; have q5 := (hb3.cell (p := ⟨X, 0, none⟩) hl7).trans x0)
                          all_goals go_wp2_with fail
                          all_goals go_meet
                          all_goals exact HPUT.out ⟨hb3.os, hb3.tape, hb3.output, hb3.size, hb3.block⟩
                        case rest =>
                          have hMc : FM W1 go k co X m (.slice (some ⟨b2, o2, none⟩) r.rhs.length sc) cn wc := hcut
                          have xx1 := hMc.b1
                          have hwsz := hMc.bel.size
                          have kk : ∀ p, W1.cell? ⟨b2, p, none⟩ = wr.cell? ⟨b2, p, none⟩ := fun p => (hM.bel.cell (p := ⟨b2, p, none⟩) hb2).symm
                          have kc : ∀ p, wc.cell? ⟨b2, p, none⟩ = wr.cell? ⟨b2, p, none⟩ := fun p => (hMc.bel.cell (p := ⟨b2, p, none⟩) hb2).trans (kk p)
                          rw [← kc] at k0 k1 k2 k3 k4
                          have H51 : Hid _ := fun (_ : Unit) => so_any s true so gm k cm wc (by have := HVV.out; omega) (by omega) (fun m h => (hMc.bel.cell (p := ⟨gm, m, none⟩) hg2).trans (getD_cell hrow m h))
                          have hpp : pOf true = pN := rfl
                          rw [hpp] at H51
                          rw [HVV.out] at H51
                          clear kk kc hcut
                          go_wp2_with (go_at_call 51; refine (H51.out ()).mono ?_; rintro e w2 ⟨rfl, hbz⟩)
                          exact ⟨⟨j + 1, by omega, by go_num, by rw [HAh.out], by rw [HStep.out]; exact hMc.below hbz⟩, by simp [intOf]; omega⟩
                  · obtain rfl : j = r.rhs.length := by omega
                    go_wp2
                    exact ⟨⟨i + 1, by omega, by go_num, by rw [HE2.out]; exact hM.row, hM.bel⟩, by simp [intOf]; omega⟩
              · obtain rfl : i = G.rules.length := by omega
                go_wp2
                exact ⟨⟨n + 1, by omega, by go_num, by rw [HE.out]; exact hor, hB⟩, by simp [intOf]; omega⟩
          · obtain rfl : n = k := by omega
            have HD : Hid _ := frR_done hm hOk hsets
            have HF : Hid _ := frR_ok hm hOk hsets n
            go_wp2
            go_ret2
            refine ⟨⟨_, frR n G.rules so n, by rw [← code_ok hok]; rfl, by rw [frR_len]; exact row_mono hor hB1.size, .inr ⟨hok, by rw [frR_len, HNt.out], HF.out.ok, fun x b hx hb => HD.out x b hb⟩⟩, hB1.trans (hB.mono hB1.size)⟩
end Go.Proofs.Ytopbibhpekjaeaa
