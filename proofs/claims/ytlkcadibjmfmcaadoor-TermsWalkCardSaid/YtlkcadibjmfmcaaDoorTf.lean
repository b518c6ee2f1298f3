/- Two terms compared: kin.Same and Same. -/
import Derived.Test.YtlkcadibjmfmcaaDoorTe
import Derived.BigQuiet
import Derived.Deep.QuietTactic
import Derived.Deep.AppendLies
import Derived.Deep.RegionLaw
namespace Go.Proofs.YtlkcadibjmfmcaaDoor
open Go.RowKit

/-- Two trees, and where they lie. -/
structure Pr where
  ba : Nat
  oa : Nat
  bb : Nat
  ob : Nat
  x : Tm
  y : Tm
/-- Pairs in memory; the trees lie where they lay in W0. -/
structure WS (W0 W : World) (hi n₀ f : Nat) (wv : Value) (ps : List Pr) (cs : List Value) : Prop where
  row : W.ownsRow hi 90 2 wv ps.length cs
  at' : ∀ j p, ps[j]? = some p → TermAt W0 n₀ f p.ba p.oa p.x ∧ TermAt W0 n₀ f p.bb p.ob p.y ∧ cs[j * 2]? = some (.pointer (some ⟨p.ba, p.oa, none⟩)) ∧ cs[j * 2 + 1]? = some (.pointer (some ⟨p.bb, p.ob, none⟩))
section
variable {W0 W W' : World} {hi n₀ f : Nat} {wv : Value} {ps : List Pr} {cs : List Value}
theorem WS.move (h : WS W0 W hi n₀ f wv ps cs) (hk : ∀ g, wv.ownBlock = some g → W'.heap[g]? = W.heap[g]?) : WS W0 W' hi n₀ f wv ps cs := by
  refine ⟨⟨h.row.1, ?_⟩, h.at'⟩
  rcases h.row.2 with h0 | ⟨g, cap, cur, rfl, hbg, hg, rest⟩
  · exact .inl h0
  · exact .inr ⟨g, cap, cur, rfl, hbg, (hk g rfl).trans hg, rest⟩
theorem WS.push (h : WS W0 W hi n₀ f wv ps cs) {v' : Value} {p : Pr} (h1 : TermAt W0 n₀ f p.ba p.oa p.x) (h2 : TermAt W0 n₀ f p.bb p.ob p.y) (hr : W'.ownsRow hi 90 2 v' (ps.length + 1) (cs ++ [.pointer (some ⟨p.ba, p.oa, none⟩), .pointer (some ⟨p.bb, p.ob, none⟩)])) : WS W0 W' hi n₀ f v' (ps ++ [p]) (cs ++ [.pointer (some ⟨p.ba, p.oa, none⟩), .pointer (some ⟨p.bb, p.ob, none⟩)]) := by
  have hcl := h.row.1
  refine ⟨by rw [List.length_append]; exact hr, fun j q hj => ?_⟩
  by_cases hlt : j < ps.length
  · rw [List.getElem?_append_left hlt] at hj
    obtain ⟨t1, t2, t3, t4⟩ := h.at' j q hj
    exact ⟨t1, t2, by rw [List.getElem?_append_left (by omega)]; exact t3, by rw [List.getElem?_append_left (by omega)]; exact t4⟩
  · have := (List.getElem?_eq_some_iff.1 hj).1
    simp at this
    obtain rfl : j = ps.length := by omega
    simp at hj
    subst hj
    refine ⟨h1, h2, ?_, ?_⟩
    · rw [List.getElem?_append_right (by omega), hcl, Nat.sub_self]; rfl
    · rw [List.getElem?_append_right (by omega), hcl, show ps.length * 2 + 1 - ps.length * 2 = 1 by omega]; rfl
/-- The last pair, and the row without it. -/
theorem WS.top {p : Pr} (h : WS W0 W hi n₀ f wv (ps ++ [p]) cs) : ∃ g cap, wv = .slice (some ⟨g, 0, none⟩) (ps.length + 1) cap ∧ hi ≤ g ∧ g < W.heap.size ∧ ps.length + 1 ≤ cap ∧ W.cell? ⟨g, ps.length * 2, none⟩ = some (.pointer (some ⟨p.ba, p.oa, none⟩)) ∧ W.cell? ⟨g, ps.length * 2 + 1, none⟩ = some (.pointer (some ⟨p.bb, p.ob, none⟩)) ∧ TermAt W0 n₀ f p.ba p.oa p.x ∧ TermAt W0 n₀ f p.bb p.ob p.y ∧ WS W0 W hi n₀ f (.slice (some ⟨g, 0, none⟩) ps.length cap) ps (cs.take (ps.length * 2)) := by
  have hr := h.row
  rw [List.length_append] at hr
  have hr' : W.ownsRow hi 90 2 wv (ps.length + 1) cs := hr
  obtain ⟨g, cap, rfl, hbg, hg, hcap⟩ := row_at hr' (by omega)
  have hcl : cs.length = (ps.length + 1) * 2 := hr'.1
  obtain ⟨t1, t2, t3, t4⟩ := h.at' ps.length p (by simp)
  refine ⟨g, cap, rfl, hbg, hg, hcap, (hr'.cellAt (ps.length * 2) (by omega)).trans t3, (hr'.cellAt (ps.length * 2 + 1) (by omega)).trans t4, t1, t2, row_init hr', fun j q hj => ?_⟩
  have hlt := (List.getElem?_eq_some_iff.1 hj).1
  obtain ⟨u1, u2, u3, u4⟩ := h.at' j q (by rw [List.getElem?_append_left hlt]; exact hj)
  exact ⟨u1, u2, by rw [List.getElem?_take_of_lt (by omega)]; exact u3, by rw [List.getElem?_take_of_lt (by omega)]; exact u4⟩
end
/-- How many parts the first ones of pairs have. -/
def tot (ps : List Pr) : Nat := szL (ps.map Pr.x)
theorem szL_app (l m : List Tm) : szL (l ++ m) = szL l + szL m := by
  induction l with
  | nil => simp [szL]
  | cons x l ih => rw [List.cons_append, szL, szL, ih]; omega
theorem tot_app (ps qs : List Pr) : tot (ps ++ qs) = tot ps + tot qs := by unfold tot; rw [List.map_append, szL_app]
theorem len_tot (ps : List Pr) : ps.length ≤ tot ps := by
  induction ps with
  | nil => simp
  | cons p ps ih => unfold tot at ih ⊢; rw [List.map_cons, szL, List.length_cons, sz_eq]; omega
theorem all_same (ps : List Pr) : (∀ p ∈ ps, p.x = p.y) ↔ ps.map Pr.x = ps.map Pr.y := List.map_inj_left.symm
/-- What is so when the next pair is looked at. -/
structure KI (W0 : World) (n₀ f : Nat) (a b : Tm) (wv : Value) (wr : World) (ps : List Pr) (cs : List Value) (k : Nat) : Prop where
  ws : WS W0 wr n₀ n₀ f wv ps cs
  bel : Below n₀ W0 wr
  eq : (∀ p ∈ ps, p.x = p.y) ↔ a = b
  le : tot ps ≤ sz a
  num : tot ps = k
def KE (W0 : World) (n₀ f : Nat) (a b : Tm) (wv : Value) (wr : World) (k : Nat) : Prop := ∃ ps cs, KI W0 n₀ f a b wv wr ps cs k
theorem len_szL (l : List Tm) : l.length ≤ szL l := by
  induction l with
  | nil => simp
  | cons x l ih => rw [szL, List.length_cons, sz_eq]; omega
theorem KI.step {W0 W wr0 : World} {n₀ f : Nat} {a b : Tm} {wv0 wv : Value} {P qs : List Pr} {p : Pr} {cs0 cs' : List Value} {k : Nat} (h : KI W0 n₀ f a b wv0 wr0 (P ++ [p]) cs0 k) (hr : p.x.kind = p.y.kind ∧ p.x.cons = p.y.cons ∧ p.x.text = p.y.text)
    (hws : WS W0 W n₀ n₀ f wv (P ++ qs) cs') (hqx : qs.map Pr.x = p.x.kids) (hqy : qs.map Pr.y = p.y.kids) (hB : Below n₀ W0 W) : ∃ k', k' < k ∧ KE W0 n₀ f a b wv W k' := by
  have h1 : tot (P ++ [p]) = tot P + (1 + szL p.x.kids) := by rw [tot_app]; simp [tot, szL, sz_eq p.x]
  have h2 : tot (P ++ qs) = tot P + szL p.x.kids := by rw [tot_app]; unfold tot; rw [hqx]
  have h3 := h.num
  have h4 := h.le
  refine ⟨tot (P ++ qs), by omega, P ++ qs, cs', hws, hB, ?_, by omega, rfl⟩
  rw [← h.eq]
  have hq : (∀ q ∈ qs, q.x = q.y) ↔ p.x = p.y := by
    rw [all_same, hqx, hqy]
    exact ⟨fun e => Tm.ext' hr.1 hr.2.1 hr.2.2 e, fun e => by rw [e]⟩
  constructor
  · intro hA q hm
    rcases List.mem_append.1 hm with hm | hm
    · exact hA q (List.mem_append_left _ hm)
    · simp at hm; subst hm; exact hq.1 (fun q hm => hA q (List.mem_append_right _ hm))
  · intro hA q hm
    rcases List.mem_append.1 hm with hm | hm
    · exact hA q (List.mem_append_left _ hm)
    · exact hq.2 (hA p (by simp)) q hm
set_option maxRecDepth 100000 in
set_option maxHeartbeats 8000000 in
theorem kinSame_any (a b : Tm) (tva tvb : Value) (sa sb : Option Addr) (sc sd f : Nat) (w : World) (hta : Txt w w.heap.size tva a.text) (htb : Txt w w.heap.size tvb b.text) (hka : MAt w w.heap.size f sa a.kids) (hkb : MAt w w.heap.size f sb b.kids) (hsc : a.kids.length ≤ sc) (hsd : b.kids.length ≤ sd) (hlen : sz a ≤ 1000000000000) :
    Calls Tryd.prog 41 #[.agg #[.int .i64 a.kind, .string a.cons, tva, .slice sa a.kids.length sc], .agg #[.int .i64 b.kind, .string b.cons, tvb, .slice sb b.kids.length sd], .func (.func 36) #[] #[], .func (.func 42) #[] #[]] w fun e w' => e = .returned (.bool (eqT a b)) ∧ Below w.heap.size w w' := by
  obtain ⟨w1, hw1⟩ : ∃ w1, w.alloc (.cells #[.int .i64 a.kind, .string a.cons, tva, .slice sa a.kids.length sc] 25) = w1 := ⟨_, rfl⟩
  have s1 : w1.heap.size = w.heap.size + 1 := by rw [← hw1]; simp
  have hB1 : Below w.heap.size w w1 := by rw [← hw1]; exact (Below.refl _ _).alloc (Nat.le_refl _) _
  have hta1 : TermAt w1 (w.heap.size + 1) f w.heap.size 0 a := ⟨by omega, sa, sc, by rw [← hw1]; exact cell_new 0 rfl, by rw [← hw1]; exact cell_new 1 rfl, (hta.keep hB1).cell (by omega) (by rw [← hw1]; exact cell_new 2 rfl), by rw [← hw1]; exact cell_new 3 rfl, hsc, (hka.keep hB1).mono (by omega)⟩
  obtain ⟨w2, hw2⟩ : ∃ w2, w1.alloc (.cells #[.int .i64 b.kind, .string b.cons, tvb, .slice sb b.kids.length sd] 25) = w2 := ⟨_, rfl⟩
  have s2 : w2.heap.size = w.heap.size + 1 + 1 := by rw [← hw2]; simp [s1]
  have hB2' : Below w1.heap.size w1 w2 := by rw [← hw2]; exact (Below.refl _ _).alloc (Nat.le_refl _) _
  have hB2 : Below w.heap.size w w2 := hB1.trans (hB2'.mono (by omega))
  have htb2 : TermAt w2 (w.heap.size + 1 + 1) f (w.heap.size + 1) 0 b := ⟨by omega, sb, sd, by rw [← hw2, ← s1]; exact cell_new 0 rfl, by rw [← hw2, ← s1]; exact cell_new 1 rfl, (htb.keep hB2).cell (by omega) (by rw [← hw2, ← s1]; exact cell_new 2 rfl), by rw [← hw2, ← s1]; exact cell_new 3 rfl, hsd, (hkb.keep hB2).mono (by omega)⟩
  have hta2 : TermAt w2 (w.heap.size + 1 + 1) f w.heap.size 0 a := (hta1.keep (by rw [← s1]; exact hB2')).mono (by omega)
  obtain ⟨w3, hw3⟩ : ∃ w3, w2.alloc (.cells #[.pointer (some ⟨w.heap.size, 0, none⟩), .pointer (some ⟨w.heap.size + 1, 0, none⟩)] 90) = w3 := ⟨_, rfl⟩
  have s3 : w3.heap.size = w.heap.size + 3 := by rw [← hw3]; simp [s2]
  have hB3' : Below w2.heap.size w2 w3 := by rw [← hw3]; exact (Below.refl _ _).alloc (Nat.le_refl _) _
  have hB3 : Below w.heap.size w w3 := hB2.trans (hB3'.mono (by omega))
  have hkeep : Below (w.heap.size + 1 + 1) w2 w3 := by rw [← s2]; exact hB3'
  have hblk : w3.heap[w.heap.size + 1 + 1]? = some (.cells #[.pointer (some ⟨w.heap.size, 0, none⟩), .pointer (some ⟨w.heap.size + 1, 0, none⟩)] 90 (0, 0)) := by rw [← hw3, ← s2]; exact World.alloc_heap_new _ _
  have hKI : KI w3 (w.heap.size + 1 + 1) f a b (.slice (some ⟨w.heap.size + 1 + 1, 0, none⟩) 1 1) w3 [⟨w.heap.size, 0, w.heap.size + 1, 0, a, b⟩] [.pointer (some ⟨w.heap.size, 0, none⟩), .pointer (some ⟨w.heap.size + 1, 0, none⟩)] (sz a) := by
    refine ⟨⟨⟨rfl, .inr ⟨_, 1, _, rfl, Nat.le_refl _, hblk, Nat.le_refl _, by unfold maxLen; omega, rfl, rfl⟩⟩, fun j p hj => ?_⟩, Below.refl _ _, by simp, by simp [tot, szL], by simp [tot, szL]⟩
    match j, hj with
    | 0, hj => cases hj; exact ⟨hta2.keep hkeep, htb2.keep hkeep, rfl, rfl⟩
  have HKI : Hid _ := hKI
  have HB3 : Hid _ := hB3
  have HS3 : Hid _ := s3
  have HLE : Hid _ := hlen
  clear hKI hB3 s3 hta hta1 hta2 htb htb2 hkeep hblk hB3' hB2 hB2' hB1 hka hkb hsc hsd hlen
  obtain ⟨i0, hi0, hz0, hz1, hz2⟩ := info_parts (show (Tryd.prog.info? 90).map (fun i => (i.zero, i.size, i.bytes)) = some (some (.agg #[.pointer none, .pointer none]), 2, 16) by kernel_rfl)
  go_enter Tryd.func41, Tryd.ntmps41
  go_wp2
  go_loopw [9] (fun wv wr => ∃ k, KE w3 (w.heap.size + 1 + 1) f a b wv wr k) (fun wv wr => least (KE w3 (w.heap.size + 1 + 1) f a b wv wr))
  case atStart => exact ⟨_, _, _, HKI.out⟩
  case round =>
    obtain ⟨k1, hk1⟩ := hrel
    obtain ⟨ps, cs, hP⟩ := least_spec hk1
    clear hk1
    generalize hkk : least (KE w3 (w.heap.size + 1 + 1) f a b _ _) = k at hP
    have HKK : Hid _ := hkk
    clear hkk
    have hBr : Below w.heap.size w wr := HB3.out.trans (hP.bel.mono (by omega))
    rcases List.eq_nil_or_concat ps with rfl | ⟨P, p, hPP⟩
    · obtain ⟨va, vc, rfl⟩ := row_slice hP.ws.row
      have HE : Hid (eqT a b = true) := eqT_true (hP.eq.1 (by simp))
      have HB : Hid _ := hBr
      clear hP hBr
      go_wp2
      go_ret
      exact ⟨by rw [HE.out]; rfl, HB.out⟩
    · rw [List.concat_eq_append] at hPP
      subst hPP
      obtain ⟨g, cap, rfl, hgi, hgs, hcap, t0, t1, htx, hty, hws⟩ := hP.ws.top
      have hPl : P.length + 1 ≤ 1000000000000 := by
        have h1 := len_tot (P ++ [p])
        have h2 := hP.le
        have h3 := HLE.out
        simp at h1
        omega
      have hbnd : P.length + p.x.kids.length ≤ 1000000000000 := by
        have h1 := len_tot P
        have h2 := hP.le
        have h3 := HLE.out
        have h4 := len_szL p.x.kids
        have h5 : tot (P ++ [p]) = tot P + (1 + szL p.x.kids) := by rw [tot_app]; simp [tot, szL, sz_eq p.x]
        omega
      have hsz := HS3.out
      have hbs := hP.bel.size
      have hsb : IntKind.i64.wrap (((P.length + 1 : Nat) : Int) - 1) = (P.length : Int) := by rw [IntKind.wrap_i64]; omega
      have hlt1 : (P.length : Int) < ((P.length + 1 : Nat) : Int) := by omega
      have htx' := htx
      have hty' := hty
      obtain ⟨hbx, xa, xc, _, _, _, c2', hxc, hxk⟩ := htx'
      obtain ⟨hby, ya, yc, _, _, _, d2', hyc, hyk⟩ := hty'
      have c2 := (hP.bel.cell (p := ⟨p.ba, p.oa + 3, none⟩) hbx).trans c2'
      have d2 := (hP.bel.cell (p := ⟨p.bb, p.ob + 3, none⟩) hby).trans d2'
      clear c2' d2'
      have hpa : p.ba < wr.heap.size := by omega
      have hpb : p.bb < wr.heap.size := by omega
      have HO : Hid _ := fun b o w => ofTerm_any b o w
      have HP : Hid _ := hP
      have HWS : Hid _ := hws
      have HTX : Hid _ := htx
      have HTY : Hid _ := hty
      have HBr : Hid _ := hBr
      have HXK : Hid _ := hxk
      have HYK : Hid _ := hyk
      have hz9 : (0 : Int) < ((P.length : Int) + 1) := by omega
      clear hP hws htx hty hBr hxk hyk hbs
      go_wp2
      go_quiet (first | (go_at_call 36; exact Calls.quiet_of_same (HO.out _ _ _)))
      obtain ⟨V, hV⟩ : ∃ V, (wr.alloc (.cells #[.pointer (some ⟨p.ba, p.oa, none⟩), .pointer (some ⟨p.bb, p.ob, none⟩)] 90)).drewN nq = V := ⟨_, rfl⟩
      have v0 : V.cell? ⟨wr.heap.size, 0, none⟩ = some (.pointer (some ⟨p.ba, p.oa, none⟩)) := by rw [← hV]; exact cell_new (w := wr) (t := 90) 0 rfl
      have v1 : V.cell? ⟨wr.heap.size, 1, none⟩ = some (.pointer (some ⟨p.bb, p.ob, none⟩)) := by rw [← hV]; exact cell_new (w := wr) (t := 90) 1 rfl
      have hBV : Below wr.heap.size wr V := by
        rw [← hV]
        have h := (Below.refl wr.heap.size wr).alloc (Nat.le_refl _) (.cells #[.pointer (some ⟨p.ba, p.oa, none⟩), .pointer (some ⟨p.bb, p.ob, none⟩)] 90)
        exact ⟨h.os, h.tape, h.output, h.size, h.block⟩
      have sV : wr.heap.size < V.heap.size := by rw [← hV]; show wr.heap.size < (wr.alloc _).heap.size; simp
      rw [hV]
      clear hV t0 t1
      have hws2 : WS w3 V (w.heap.size + 1 + 1) (w.heap.size + 1 + 1) f (.slice (some ⟨g, 0, none⟩) P.length cap) P (cs.take (P.length * 2)) := HWS.out.move (fun g' hg' => by simp [Value.ownBlock] at hg'; subst hg'; exact hBV.block g hgs)
      have hB3V : Below (w.heap.size + 1 + 1) w3 V := HP.out.bel.trans (hBV.mono (by omega))
      have hBwV : Below w.heap.size w V := HBr.out.trans (hBV.mono HBr.out.size)
      have HA : Hid _ := fun (_ : Unit) => alike_any p.x p.y _ _ f f p.ba p.oa p.bb p.ob V ((show TermAt w3 (w.heap.size + 1 + 1) f p.ba p.oa p.x from HTX.out).keep hB3V) ((show TermAt w3 (w.heap.size + 1 + 1) f p.bb p.ob p.y from HTY.out).keep hB3V)
      have HW2 : Hid _ := hws2
      have HBV3 : Hid _ := hB3V
      have HBwV : Hid _ := hBwV
      clear hws2 hB3V hBwV hBV
      by_cases hr : p.x.kind = p.y.kind ∧ p.x.cons = p.y.cons ∧ p.x.text = p.y.text
      · have e1 : decide (p.x.kind = p.y.kind ∧ p.x.cons = p.y.cons ∧ p.x.text = p.y.text) = true := decide_eq_true hr
        rw [e1] at HA
        clear e1
        by_cases hl : p.x.kids.length = p.y.kids.length
        · have q3 : ((p.x.kids.length : Int) != (p.y.kids.length : Int)) = false := by simp [hl]
          have HL : Hid _ := hl
          have HR : Hid _ := hr
          clear hl hr
          go_wp2_with (go_at_call 42; refine (HA.out ()).mono ?_; rintro e w4 ⟨rfl, hb4⟩)
          have HW4 : Hid (WS w3 w4 (w.heap.size + 1 + 1) (w.heap.size + 1 + 1) f (.slice (some ⟨g, 0, none⟩) P.length cap) P (cs.take (P.length * 2))) := HW2.out.move (fun g' hg' => by simp [Value.ownBlock] at hg'; subst hg'; exact hb4.block g (by omega))
          have HB4 : Hid (Below (w.heap.size + 1 + 1) w3 w4) := HBV3.out.trans (hb4.mono (by omega))
          clear hb4
          go_loopw [9, 58] (fun wv i W => ∃ (k : Nat) (qs : List Pr) (cs' : List Value), k ≤ p.x.kids.length ∧ i = .int .i64 k ∧ WS w3 W (w.heap.size + 1 + 1) (w.heap.size + 1 + 1) f wv (P ++ qs) cs' ∧ qs.map Pr.x = p.x.kids.take k ∧ qs.map Pr.y = p.y.kids.take k ∧ Below (w.heap.size + 1 + 1) w3 W) (fun _ i _ => p.x.kids.length - (intOf i).toNat)
          case atStart => exact ⟨0, [], _, by omega, rfl, by simpa using HW4.out, by simp, by simp, HB4.out⟩
          case round =>
            obtain ⟨j, qs, cs', hj, rfl, hws, hqx, hqy, hB⟩ := hrel
            have hql : qs.length = j := by
              have := congrArg List.length hqx
              simp at this; omega
            have HW5 : Hid _ := hws
            have HQX : Hid _ := hqx
            have HQY : Hid _ := hqy
            have HB5 : Hid _ := hB
            have hrow := hws.row
            have hbs5 := hB.size
            clear hws hqx hqy hB HA HW4 HB4 HW2 HBV3 HBwV v0 v1
            by_cases hlt : j < p.x.kids.length
            · have hlt' : j < p.y.kids.length := by have := HL.out; omega
              obtain ⟨x, hx⟩ : ∃ x, p.x.kids[j]? = some x := ⟨p.x.kids[j], by simp [hlt]⟩
              obtain ⟨y, hy⟩ : ∃ y, p.y.kids[j]? = some y := ⟨p.y.kids[j], by simp [hlt']⟩
              obtain ⟨bx, ox, hxa, hxt⟩ := (show MAt w3 (w.heap.size + 1 + 1) f xa p.x.kids from HXK.out).one hx
              obtain ⟨by', oy, hya, hyt⟩ := (show MAt w3 (w.heap.size + 1 + 1) f ya p.y.kids from HYK.out).one hy
              subst hxa
              subst hya
              have HX1 : Hid ((qs ++ [(⟨bx, ox + j * 4, by', oy + j * 4, x, y⟩ : Pr)]).map Pr.x = p.x.kids.take (j + 1)) := by
                show List.map _ _ = _
                rw [List.map_append, HQX.out, List.take_add_one, hx]; rfl
              have HY1 : Hid ((qs ++ [(⟨bx, ox + j * 4, by', oy + j * 4, x, y⟩ : Pr)]).map Pr.y = p.y.kids.take (j + 1)) := by
                show List.map _ _ = _
                rw [List.map_append, HQY.out, List.take_add_one, hy]; rfl
              have HXT : Hid _ := fun (_ : Unit) => hxt
              have HYT : Hid _ := fun (_ : Unit) => hyt
              have hPq : (P ++ qs).length + 1 ≤ 1000000000000 := by simp; omega
              have HN : Hid (∀ i u, [Value.pointer (some ⟨bx, ox + j * 4, none⟩), .pointer (some ⟨by', oy + j * 4, none⟩)][i]? = some u → (wr.alloc (.cells #[.pointer (some ⟨bx, ox + j * 4, none⟩), .pointer (some ⟨by', oy + j * 4, none⟩)] 90)).drew.cell? ((⟨wr.heap.size, 0, none⟩ : Addr).add i) = some u) := fun i u hu => by
                have hadd : (⟨wr.heap.size, 0, none⟩ : Addr).add i = ⟨wr.heap.size, i, none⟩ := by unfold Addr.add; split <;> simp_all
                rw [hadd]
                exact cell_new (w := wr) (t := 90) i (by simpa using hu)
              obtain ⟨L, HLn⟩ : ∃ L, Hid ((P ++ qs).length = L) := ⟨_, rfl⟩
              rw [HLn.out] at hrow hPq
              obtain ⟨va, vc, rfl⟩ := row_slice hrow
              clear hx hy hxt hyt hql
              go_wp2
              go_region_law (refine step_append_lies _ (by rfl) _ _ _ (by rfl) (w.heap.size + 1 + 1) 90 i0 _ 2 16 Tryd.underlying91 hi0 hz0 hz1 hz2 rfl (by omega) (.slice va L vc) L cs' (by rfl) (by first | exact (hrow.alloc _).drew | exact (hrow.drew.alloc _)) ⟨wr.heap.size, 0, none⟩ 1 1 [.pointer (some ⟨bx, ox + j * 4, none⟩), .pointer (some ⟨by', oy + j * 4, none⟩)] (by rfl) (by rfl) HN.out (by intro u hu; simp at hu; rcases hu with rfl | rfl <;> rfl) (by omega) (by unfold maxLen; omega) (by omega) (by simp; omega) (wr.heap.size + 1) (by simp) ?_; intro g1 cap1 w5 hown1 hgrow hat hlt5)
              all_goals (
                have hB6 : Below (w.heap.size + 1 + 1) w3 w5 := ((HB5.out.alloc (by omega) (.cells #[.pointer (some ⟨bx, ox + j * 4, none⟩), .pointer (some ⟨by', oy + j * 4, none⟩)] 90)).drew).grown hgrow (by simp; omega) (fun q hq => (hrow.lt q hq).1)
                have hws6 : WS w3 w5 (w.heap.size + 1 + 1) (w.heap.size + 1 + 1) f (.slice (some ⟨g1, 0, none⟩) (L + 1) cap1) (P ++ qs ++ [⟨bx, ox + j * 4, by', oy + j * 4, x, y⟩]) _ := HW5.out.push (p := ⟨bx, ox + j * 4, by', oy + j * 4, x, y⟩) (HXT.out ()) (HYT.out ()) (by rw [HLn.out]; exact hown1)
                rw [List.append_assoc] at hws6
                have HB6 : Hid _ := hB6
                have HW6 : Hid _ := hws6
                clear hB6 hws6 hown1 hgrow hat hlt5
                go_wp2
                exact ⟨⟨j + 1, _, _, by omega, by go_num, HW6.out, HX1.out, HY1.out, HB6.out⟩, by simp [intOf]; omega⟩)
            · have hjn : j = p.x.kids.length := by omega
              have HF : Hid _ := HP.out.step HR.out HW5.out (by rw [HQX.out, hjn, List.take_length]) (by rw [HQY.out, hjn, HL.out, List.take_length]) HB5.out
              obtain ⟨va, vc, rfl⟩ := row_slice hrow
              subst hjn
              clear hrow hql
              go_wp2
              obtain ⟨k', hk', hKE⟩ := HF.out
              exact ⟨⟨_, hKE⟩, by rw [HKK.out]; exact Nat.lt_of_le_of_lt (least_le hKE) hk'⟩
        · have q3 : ((p.x.kids.length : Int) != (p.y.kids.length : Int)) = true := by simp; omega
          have q3' : ¬ (p.x.kids.length : Int) = (p.y.kids.length : Int) := by omega
          have HE : Hid (eqT a b = false) := eqT_false (fun e => by
            have := HP.out.eq.2 e p (by simp)
            exact hl (by rw [this]))
          clear hl hr
          go_wp2_with (go_at_call 42; refine (HA.out ()).mono ?_; rintro e w4 ⟨rfl, hb4⟩)
          go_ret
          exact ⟨by rw [HE.out]; rfl, HBwV.out.trans (hb4.mono HBwV.out.size)⟩
      · have e1 : decide (p.x.kind = p.y.kind ∧ p.x.cons = p.y.cons ∧ p.x.text = p.y.text) = false := decide_eq_false hr
        rw [e1] at HA
        have HE : Hid (eqT a b = false) := eqT_false (fun e => by
          have := HP.out.eq.2 e p (by simp)
          exact hr ⟨by rw [this], by rw [this], by rw [this]⟩)
        clear e1 hr
        go_wp2_with (go_at_call 42; refine (HA.out ()).mono ?_; rintro e w4 ⟨rfl, hb4⟩)
        go_ret
        exact ⟨by rw [HE.out]; rfl, HBwV.out.trans (hb4.mono HBwV.out.size)⟩
set_option maxRecDepth 100000 in
set_option maxHeartbeats 4000000 in
theorem same_any (a b : Tm) (tva tvb : Value) (sa sb : Option Addr) (sc sd f : Nat) (w : World) (hta : Txt w w.heap.size tva a.text) (htb : Txt w w.heap.size tvb b.text) (hka : MAt w w.heap.size f sa a.kids) (hkb : MAt w w.heap.size f sb b.kids) (hsc : a.kids.length ≤ sc) (hsd : b.kids.length ≤ sd) (hlen : sz a ≤ 1000000000000) :
    Calls Tryd.prog 22 #[.agg #[.int .i64 a.kind, .string a.cons, tva, .slice sa a.kids.length sc], .agg #[.int .i64 b.kind, .string b.cons, tvb, .slice sb b.kids.length sd]] w fun e w' => e = .returned (.bool (eqT a b)) ∧ Below w.heap.size w w' := by
  have hC := fun (W : World) (hW : Below w.heap.size w W) => kinSame_any a b tva tvb sa sb sc sd f W ((hta.keep hW).mono hW.size) ((htb.keep hW).mono hW.size) ((hka.keep hW).mono hW.size) ((hkb.keep hW).mono hW.size) hsc hsd hlen
  obtain ⟨w1, hw1⟩ : ∃ w1, w.alloc (.cells #[.int .i64 a.kind, .string a.cons, tva, .slice sa a.kids.length sc] 25) = w1 := ⟨_, rfl⟩
  have s1 : w1.heap.size = w.heap.size + 1 := by rw [← hw1]; simp
  have hB1 : Below w.heap.size w w1 := by rw [← hw1]; exact (Below.refl _ _).alloc (Nat.le_refl _) _
  have a0 : w1.cell? ⟨w.heap.size, 0, none⟩ = some (.int .i64 a.kind) := by rw [← hw1]; exact cell_new 0 rfl
  have a1 : w1.cell? ⟨w.heap.size, 1, none⟩ = some (.string a.cons) := by rw [← hw1]; exact cell_new 1 rfl
  have a2 : w1.cell? ⟨w.heap.size, 2, none⟩ = some tva := by rw [← hw1]; exact cell_new 2 rfl
  have a3 : w1.cell? ⟨w.heap.size, 3, none⟩ = some (.slice sa a.kids.length sc) := by rw [← hw1]; exact cell_new 3 rfl
  obtain ⟨w2, hw2⟩ : ∃ w2, w1.alloc (.cells #[.int .i64 b.kind, .string b.cons, tvb, .slice sb b.kids.length sd] 25) = w2 := ⟨_, rfl⟩
  have hB2' : Below w1.heap.size w1 w2 := by rw [← hw2]; exact (Below.refl _ _).alloc (Nat.le_refl _) _
  have e0 := (hB2'.cell (p := ⟨w.heap.size, 0, none⟩) (by show w.heap.size < _; omega)).trans a0
  have e1 := (hB2'.cell (p := ⟨w.heap.size, 1, none⟩) (by show w.heap.size < _; omega)).trans a1
  have e2 := (hB2'.cell (p := ⟨w.heap.size, 2, none⟩) (by show w.heap.size < _; omega)).trans a2
  have e3 := (hB2'.cell (p := ⟨w.heap.size, 3, none⟩) (by show w.heap.size < _; omega)).trans a3
  have g0 : w2.cell? ⟨w.heap.size + 1, 0, none⟩ = some (.int .i64 b.kind) := by rw [← hw2, ← s1]; exact cell_new 0 rfl
  have g1 : w2.cell? ⟨w.heap.size + 1, 1, none⟩ = some (.string b.cons) := by rw [← hw2, ← s1]; exact cell_new 1 rfl
  have g2 : w2.cell? ⟨w.heap.size + 1, 2, none⟩ = some tvb := by rw [← hw2, ← s1]; exact cell_new 2 rfl
  have g3 : w2.cell? ⟨w.heap.size + 1, 3, none⟩ = some (.slice sb b.kids.length sd) := by rw [← hw2, ← s1]; exact cell_new 3 rfl
  have HB2 : Hid (Below w.heap.size w w2) := hB1.trans (hB2'.mono (by omega))
  have HC : Hid _ := fun (_ : Unit) => hC w2 HB2.out
  clear hC hka hkb hB1 hB2' a0 a1 a2 a3
  go_enter Tryd.func22, Tryd.ntmps22
  go_wp2_with (go_at_call 41; refine (HC.out ()).mono ?_; rintro e w3 ⟨rfl, hb3⟩)
  go_ret
  exact ⟨rfl, HB2.out.trans (hb3.mono HB2.out.size)⟩
end Go.Proofs.YtlkcadibjmfmcaaDoor
