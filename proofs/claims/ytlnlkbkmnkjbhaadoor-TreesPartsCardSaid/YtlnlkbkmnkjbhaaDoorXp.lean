/- Put: how what is told lies. -/
import Derived.Test.YtlnlkbkmnkjbhaaDoorXk
import Derived.Test.YtlnlkbkmnkjbhaaDoorP3
namespace Go.Proofs.YtlnlkbkmnkjbhaaDoor
open Go.RowKit

namespace X
set_option maxRecDepth 100000 in
set_option maxHeartbeats 8000000 in
theorem kinPut_any (d s : Tr) (sa ta : Option Addr) (sc tc f : Nat) (ps : List Int) (pa : Option Addr) (pc : Nat) (w : World) (hk : TAt w w.heap.size f sa d.kids) (hsc : d.kids.length ≤ sc) (hsk : TAt w w.heap.size f ta s.kids) (htc : s.kids.length ≤ tc) (hlen : sz d + sz s ≤ 1000000000000) (hp : IAt w w.heap.size pa ps) (hpl : ps.length ≤ 1000000000000) :
    Calls Tryd.prog 51 #[.agg #[.int .i64 d.rule, .int .u8 (d.byte.toNat : Int), .slice sa d.kids.length sc], .slice pa ps.length pc, .agg #[.int .i64 s.rule, .int .u8 (s.byte.toNat : Int), .slice ta s.kids.length tc], .func (.func 45) #[] #[]] w fun e w' => APost w (putP d ps s) e w' := by
  have hX0 := PtI.start w d ps s sa ta sc tc f hk hsc
  have HP : Hid _ := hp
  have HSK : Hid _ := And.intro hsk htc
  have HLN : Hid _ := hlen
  obtain ⟨n, hn⟩ : ∃ n, ps.length = n := ⟨_, rfl⟩
  rw [hn] at hpl ⊢
  have HNN : Hid _ := hn
  clear hk hsc hlen hp hsk htc hn
  go_enter Tryd.func51, Tryd.ntmps51
  go_wp2
  go_loopw [10, 17] (fun pv i W => ∃ (k : Nat) (x : Tr) (pb po : Nat), pv = .pointer (some ⟨pb, po, none⟩) ∧ i = .int .i64 (k : Int) ∧ PtI w d ps s ta tc f k x pb po W) (fun _ i _ => n - (intOf i).toNat)
  case atStart => exact ⟨0, d, w.heap.size, 0, rfl, rfl, hX0⟩
  case round =>
    clear hX0
    obtain ⟨k, x, pb, po, rfl, rfl, hX⟩ := hrel
    have HX : Hid _ := hX
    have hle : k ≤ n := by have := hX.le; have := HNN.out; omega
    obtain ⟨⟨xa, xc, ⟨x0, x1, x2⟩, hxc, hxk⟩, hxf⟩ := hX.hole.here
    obtain ⟨_, _, _, hpl4⟩ := hX.hole.lo
    have s0 := hX.s0
    have s1 := hX.s1
    have s2 := hX.s2
    have r0 := hX.r0
    have r1 := hX.r1
    have r2 := hX.r2
    have rf := hX.rf
    have hlt2 := hX.lt
    by_cases hlt : k < n
    · obtain ⟨v, hv⟩ : ∃ v, ps[k]? = some v := ⟨ps[k]'(by have := HNN.out; omega), by simp⟩
      obtain ⟨b, o, rfl, hb, hc⟩ := HP.out k v hv
      have hc' := (hX.bel.cell (p := ⟨b, o + k, none⟩) hb).trans hc
      have hkI : (k : Int) < (n : Int) := by omega
      have hkb : (k : Int) ≤ 1000000000000 := by omega
      have HO : Hid _ := fun (_ : Unit) => ofTree_any pb po wr
      have HH : Hid _ := fun (_ : Unit) => has_any xa x.kids.length xc v wr
      have HV : Hid _ := hv
      by_cases hin : 0 ≤ v ∧ v < x.kids.length
      · obtain ⟨hv0, hv1⟩ := hin
        have hq : (decide (0 ≤ v) && decide (v < (x.kids.length : Int))) = true := by simp [hv0, hv1]
        rw [hq] at HH
        obtain ⟨y, hy⟩ : ∃ y, x.kids[v.toNat]? = some y := ⟨x.kids[v.toNat]'(by omega), by simp⟩
        have hky : kidAt x v = some y := by unfold kidAt; rw [if_pos hv0]; exact hy
        have HKY : Hid _ := hky
        have HXL : Hid _ := hxk.len
        have HC : Hid _ := fun (_ : Unit) => lclone_any w x.kids xa xc f wr hxk hX.bel (by omega)
        obtain ⟨m, rfl⟩ : ∃ m : Nat, v = (m : Int) := ⟨v.toNat, by omega⟩
        have hmn : (m : Int) < (x.kids.length : Int) := hv1
        clear hX hv hc hq hky hy hv0 hv1 hxk hxc s0 s1 s2 r0 r1 r2 rf
        obtain ⟨xl, hxl⟩ : ∃ xl, x.kids.length = xl := ⟨_, rfl⟩
        rw [hxl] at HC HH x2 hmn
        have HXLL : Hid _ := hxl
        clear hxl
        go_wp2_with (first
          | (go_at_call 45; refine (HO.out ()).mono ?_; rintro e w' ⟨rfl, rfl⟩)
          | (go_at_call 70; refine (HH.out ()).mono ?_; rintro e w' ⟨rfl, rfl⟩)
          | (go_at_call 72; refine (HC.out ()).mono ?_; rintro e w5 ⟨⟨g, cap, rfl, hcap, hgw, hg5, hgf, hgz⟩, hb5⟩; have p2 := (hb5.cell (p := ⟨pb, po + 2, none⟩) hpl4).trans x2; have pf := (hb5.frozen (p := ⟨pb, po + 2, none⟩) hpl4).trans (hxf (po + 2)); have HST : Hid _ := And.intro hb5 (And.intro hcap (And.intro hgw (And.intro hg5 (And.intro hgf hgz)))); clear hb5 hcap hgw hg5 hgf hgz))
        have hST := HX.out.step HV.out HKY.out HST.out.1 (by rw [HXLL.out]; exact HST.out.2.1) HST.out.2.2.1 HST.out.2.2.2.1 HST.out.2.2.2.2.1 HXL.out HST.out.2.2.2.2.2
        rw [HXLL.out] at hST
        refine ⟨⟨k + 1, y, g, m * 3, by simp, by go_num, ?_⟩, by simp [intOf]; omega⟩
        simpa using hST
      · have hq : (decide (0 ≤ v) && decide (v < (x.kids.length : Int))) = false := by simp; omega
        rw [hq] at HH
        have HN : Hid (putP d ps s = none) := by
          refine putP_none s ?_
          rw [← hX.goes, atP_drop hv]
          have : kidAt x v = none := by
            unfold kidAt
            split
            · exact List.getElem?_eq_none (by omega)
            · rfl
          rw [this]; rfl
        clear hX hv hc hq hin hxk hxc
        go_wp2_with (first
          | (go_at_call 45; refine (HO.out ()).mono ?_; rintro e w' ⟨rfl, rfl⟩)
          | (go_at_call 70; refine (HH.out ()).mono ?_; rintro e w' ⟨rfl, rfl⟩))
        refine bodyPost_ret (v := .tuple #[.agg #[.int .i64 0, .int .u8 0, .slice none 0 0], .int .i64 4]) (by simp [results, Tryd.results51, go_sem, r0, r1, r2, hlt2]) rfl ?_
        rw [HN.out]
        have hsB : w.heap.size ≤ w.heap.size + 1 + 1 := by omega
        exact ⟨rfl, (((HX.out.bel.setCell hsB _).setCell hsB _).setCell hsB _).alloc (by simp [World.setCell]; omega) _⟩
    · obtain rfl : k = n := by omega
      have hXn : PtI w d ps s ta tc f ps.length x pb po wr := by rw [HNN.out]; exact hX
      obtain ⟨X, hXX⟩ : ∃ X, ((wr.setCell ⟨pb, po, none⟩ (.int .i64 s.rule)).setCell ⟨pb, po + 1, none⟩ (.int .u8 (s.byte.toNat : Int))).setCell ⟨pb, po + 2, none⟩ (.slice ta s.kids.length tc) = X := ⟨_, rfl⟩
      obtain ⟨⟨d', hp', da, dc, ⟨d0, d1, d2⟩, hdc, hdk⟩, hBX, hXs, hX2, hXf⟩ := hXn.fill HSK.out.2 HSK.out.1 hXX.symm
      have HX2 : Hid _ := hX2
      have HXF : Hid _ := hXf
      have HBX : Hid _ := hBX
      have HX2L : Hid (w.heap.size + 1 + 1 < X.heap.size) := by show _ < _; omega
      obtain ⟨l1, _, _, _⟩ := hXn.hole.lo
      rcases hX.far with e | e
      · have e2 : po = 0 ∧ ps = [] := by
          rcases l1 with l1 | ⟨_, l1, l2⟩
          · omega
          · exact ⟨l1.symm, by rw [List.take_length] at l2; exact l2⟩
        obtain ⟨e2, e3⟩ := e2
        have HG : Hid (putP d ps s = some s) := by show _ = _; rw [e3]; rfl
        have HC : Hid _ := fun (_ : Unit) => clone_any s ta tc f X ((HSK.out.1.keep hBX).mono hBX.size) HSK.out.2 (by have := HLN.out; omega)
        subst e e2
        have HXX : Hid _ := hXX
        rw [← hXX] at HC
        obtain ⟨D, hD⟩ : ∃ D, s = D := ⟨_, rfl⟩
        subst hD
        clear hX hXn hp' d0 d1 d2 hdc hdk hX2 hXf hBX hXs l1 e3 hXX hxk hxc
        go_wp2_with (go_at_call 71; refine (HC.out ()).mono ?_; rintro e w7 ⟨⟨va, vc, rfl, hvc, htin⟩, hb7⟩; rw [HXX.out] at hb7 htin; have k7 : ∀ q, w7.cell? ⟨w.heap.size + 1 + 1, q, none⟩ = X.cell? ⟨w.heap.size + 1 + 1, q, none⟩ := fun q => hb7.cell (p := ⟨w.heap.size + 1 + 1, q, none⟩) HX2L.out; have f7 : ∀ q, w7.frozen? ⟨w.heap.size + 1 + 1, q, none⟩ = false := fun q => (hb7.frozen (p := ⟨w.heap.size + 1 + 1, q, none⟩) HX2L.out).trans (HXF.out q); have r0' := (k7 0).trans ((HX2.out 0).trans r0); have r1' := (k7 1).trans ((HX2.out 1).trans r1); have r2' := (k7 2).trans ((HX2.out 2).trans r2); have HT7 : Hid _ := And.intro htin hb7; clear htin hb7 k7)
        refine bodyPost_ret (v := .tuple #[.agg #[.int .i64 s.rule, .int .u8 (s.byte.toNat : Int), .slice va s.kids.length vc], .int .i64 0]) (by simp [results, Tryd.results51, go_sem, r0', r1', r2']) rfl ?_
        rw [HG.out]
        have hsB : w.heap.size ≤ w.heap.size + 1 + 1 := by omega
        obtain ⟨htin, hb7⟩ := HT7.out
        have hbb : Below w.heap.size w w7 := below_of HBX.out hb7
        refine ⟨⟨f, va, vc, rfl, hvc, ?_⟩, ((hbb.setCell hsB _).setCell hsB _).setCell hsB _⟩
        refine (htin.keep (fun b hb => ?_)).wide (fun b hb => ⟨Nat.le_trans HBX.out.size hb.1, by simp [World.setCell]; exact hb.2⟩)
        have hne : w.heap.size + 1 + 1 ≠ b := by have := HX2L.out; omega
        exact set3_block hne _ _ _ _ _ _
      · have hne : w.heap.size ≠ pb := by omega
        have hne' : ¬ pb = w.heap.size := by omega
        have hne1 : ¬ pb = w.heap.size + 1 := by omega
        have hne2 : ¬ pb = w.heap.size + 1 + 1 := by omega
        have HG : Hid (putP d ps s = some d') := hp'
        have HC : Hid _ := fun (_ : Unit) => clone_any d' da dc (f + ps.length) X hdk hdc (by have := put_sz hp'; have := HLN.out; omega)
        have kx : ∀ q, X.cell? ⟨w.heap.size, q, none⟩ = wr.cell? ⟨w.heap.size, q, none⟩ := fun q => by
          rw [← hXX, World.cell?_setCell_far _ _ _ _ hne.symm, World.cell?_setCell_far _ _ _ _ hne.symm, World.cell?_setCell_far _ _ _ _ hne.symm]
        have d0' := (kx 0).symm.trans d0
        have d1' := (kx 1).symm.trans d1
        have d2' := (kx 2).symm.trans d2
        have HXX : Hid _ := hXX
        rw [← hXX] at HC
        clear hX hXn hp' d0 d1 d2 hdc hdk hX2 hXf hBX hXs l1 hXX hxk hxc kx e
        go_wp2_with (go_at_call 71; refine (HC.out ()).mono ?_; rintro e w7 ⟨⟨va, vc, rfl, hvc, htin⟩, hb7⟩; rw [HXX.out] at hb7 htin; have k7 : ∀ q, w7.cell? ⟨w.heap.size + 1 + 1, q, none⟩ = X.cell? ⟨w.heap.size + 1 + 1, q, none⟩ := fun q => hb7.cell (p := ⟨w.heap.size + 1 + 1, q, none⟩) HX2L.out; have f7 : ∀ q, w7.frozen? ⟨w.heap.size + 1 + 1, q, none⟩ = false := fun q => (hb7.frozen (p := ⟨w.heap.size + 1 + 1, q, none⟩) HX2L.out).trans (HXF.out q); have r0' := (k7 0).trans ((HX2.out 0).trans r0); have r1' := (k7 1).trans ((HX2.out 1).trans r1); have r2' := (k7 2).trans ((HX2.out 2).trans r2); have HT7 : Hid _ := And.intro htin hb7; clear htin hb7 k7)
        refine bodyPost_ret (v := .tuple #[.agg #[.int .i64 d'.rule, .int .u8 (d'.byte.toNat : Int), .slice va d'.kids.length vc], .int .i64 0]) (by simp [results, Tryd.results51, go_sem, r0', r1', r2']) rfl ?_
        rw [HG.out]
        have hsB : w.heap.size ≤ w.heap.size + 1 + 1 := by omega
        obtain ⟨htin, hb7⟩ := HT7.out
        have hbb : Below w.heap.size w w7 := below_of HBX.out hb7
        refine ⟨⟨f + ps.length, va, vc, rfl, hvc, ?_⟩, ((hbb.setCell hsB _).setCell hsB _).setCell hsB _⟩
        refine (htin.keep (fun b hb => ?_)).wide (fun b hb => ⟨Nat.le_trans HBX.out.size hb.1, by simp [World.setCell]; exact hb.2⟩)
        have hne : w.heap.size + 1 + 1 ≠ b := by have := HX2L.out; omega
        exact set3_block hne _ _ _ _ _ _
set_option maxRecDepth 100000 in
set_option maxHeartbeats 4000000 in
theorem put_any (d s : Tr) (sa ta : Option Addr) (sc tc f : Nat) (ps : List Int) (pa : Option Addr) (pc : Nat) (w : World) (hk : TAt w w.heap.size f sa d.kids) (hsc : d.kids.length ≤ sc) (hsk : TAt w w.heap.size f ta s.kids) (htc : s.kids.length ≤ tc) (hlen : sz d + sz s ≤ 1000000000000) (hp : IAt w w.heap.size pa ps) (hpl : ps.length ≤ 1000000000000) :
    Calls Tryd.prog 30 #[.agg #[.int .i64 d.rule, .int .u8 (d.byte.toNat : Int), .slice sa d.kids.length sc], .slice pa ps.length pc, .agg #[.int .i64 s.rule, .int .u8 (s.byte.toNat : Int), .slice ta s.kids.length tc]] w fun e w' => APost w (putP d ps s) e w' := by
  have hX0 := PtI.start w d [] s sa ta sc tc f hk hsc
  obtain ⟨w2, hw2⟩ : ∃ w2, ((w.alloc (.cells #[.int .i64 d.rule, .int .u8 (d.byte.toNat : Int), .slice sa d.kids.length sc] 27)).alloc (.cells #[.int .i64 s.rule, .int .u8 (s.byte.toNat : Int), .slice ta s.kids.length tc] 27)).alloc (.cells #[.int .i64 0, .int .u8 0, .slice none 0 0] 27) = w2 := ⟨_, rfl⟩
  rw [hw2] at hX0
  have hB := hX0.bel
  have HC : Hid _ := fun (_ : Unit) => kinPut_any d s sa ta sc tc f ps pa pc w2 ((hk.keep hB).mono hB.size) hsc ((hsk.keep hB).mono hB.size) htc hlen ((hp.keep hB).mono hB.size) hpl
  have r0 := hX0.r0
  have r1 := hX0.r1
  have r2 := hX0.r2
  have rf := hX0.rf
  have hlt2 := hX0.lt
  have HB : Hid _ := hB
  have hsB : w.heap.size ≤ w.heap.size + 1 + 1 := by omega
  generalize ps.length = n at *
  clear hX0 hk hp hB hsk
  subst hw2
  have K : ∀ e w7, APost (((w.alloc (.cells #[.int .i64 d.rule, .int .u8 (d.byte.toNat : Int), .slice sa d.kids.length sc] 27)).alloc (.cells #[.int .i64 s.rule, .int .u8 (s.byte.toNat : Int), .slice ta s.kids.length tc] 27)).alloc (.cells #[.int .i64 0, .int .u8 0, .slice none 0 0] 27)) (putP d ps s) e w7 → ∃ r u va vn vc er, e = .returned (.tuple #[.agg #[.int .i64 r, .int .u8 u, .slice va vn vc], .int .i64 er]) ∧ (w7.cell? ⟨w.heap.size + 1 + 1, 0, none⟩ = some (.int .i64 0) ∧ w7.cell? ⟨w.heap.size + 1 + 1, 1, none⟩ = some (.int .u8 0) ∧ w7.cell? ⟨w.heap.size + 1 + 1, 2, none⟩ = some (.slice none 0 0) ∧ ∀ q, w7.frozen? ⟨w.heap.size + 1 + 1, q, none⟩ = false) ∧ APost w (putP d ps s) (.returned (.tuple #[.agg #[.int .i64 r, .int .u8 u, .slice va vn vc], .int .i64 er])) (((w7.setCell ⟨w.heap.size + 1 + 1, 0, none⟩ (.int .i64 r)).setCell ⟨w.heap.size + 1 + 1, 1, none⟩ (.int .u8 u)).setCell ⟨w.heap.size + 1 + 1, 2, none⟩ (.slice va vn vc)) := fun e w7 h => by
    cases hq : putP d ps s with
    | none =>
      rw [hq] at h
      obtain ⟨rfl, hb7⟩ := h
      have k7 : ∀ q, w7.cell? ⟨w.heap.size + 1 + 1, q, none⟩ = _ := fun q => hb7.cell (p := ⟨w.heap.size + 1 + 1, q, none⟩) hlt2
      have hbb : Below w.heap.size w w7 := HB.out.trans (hb7.mono HB.out.size)
      exact ⟨_, _, _, _, _, _, rfl, ⟨(k7 0).trans r0, (k7 1).trans r1, (k7 2).trans r2, fun q => (hb7.frozen (p := ⟨w.heap.size + 1 + 1, q, none⟩) hlt2).trans (rf q)⟩, rfl, ((hbb.setCell hsB _).setCell hsB _).setCell hsB _⟩
    | some x =>
      rw [hq] at h
      obtain ⟨⟨F, va, vc, rfl, hvc, htin⟩, hb7⟩ := h
      have k7 : ∀ q, w7.cell? ⟨w.heap.size + 1 + 1, q, none⟩ = _ := fun q => hb7.cell (p := ⟨w.heap.size + 1 + 1, q, none⟩) hlt2
      have hbb : Below w.heap.size w w7 := HB.out.trans (hb7.mono HB.out.size)
      refine ⟨_, _, _, _, _, _, rfl, ⟨(k7 0).trans r0, (k7 1).trans r1, (k7 2).trans r2, fun q => (hb7.frozen (p := ⟨w.heap.size + 1 + 1, q, none⟩) hlt2).trans (rf q)⟩, ⟨F, va, vc, rfl, hvc, ?_⟩, ((hbb.setCell hsB _).setCell hsB _).setCell hsB _⟩
      refine (htin.keep (fun b hb => ?_)).wide (fun b hb => ⟨Nat.le_trans HB.out.size hb.1, by simp [World.setCell]; exact hb.2⟩)
      have hne : w.heap.size + 1 + 1 ≠ b := by omega
      exact set3_block hne _ _ _ _ _ _
  have HK : Hid _ := K
  clear K r0 r1 r2 rf hlt2
  go_enter Tryd.func30, Tryd.ntmps30
  go_wp2_with (go_at_call 51; refine (HC.out ()).mono ?_; intro e w7 h7; obtain ⟨r, u, va, vn, vc, er, rfl, ⟨r0, r1, r2, rf⟩, hp7⟩ := HK.out e w7 h7)
  refine bodyPost_ret (v := .tuple #[.agg #[.int .i64 r, .int .u8 u, .slice va vn vc], .int .i64 er]) (by simp [results, Tryd.results30, go_sem, r0, r1, r2]) rfl ?_
  exact hp7
end X
end Go.Proofs.YtlnlkbkmnkjbhaaDoor
