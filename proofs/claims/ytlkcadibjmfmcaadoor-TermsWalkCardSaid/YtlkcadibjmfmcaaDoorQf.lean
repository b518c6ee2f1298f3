/- A term's text, read: kids. -/
import Derived.Test.YtlkcadibjmfmcaaDoorQe
import Derived.Test.YtlkcadibjmfmcaaDoorC1
namespace Go.Proofs.YtlkcadibjmfmcaaDoor
open Go.RowKit

/-- While kids are read. -/
structure KI2 (w : World) (R : Nat) (s : ByteArray) (G m en q : Nat) (T : PR (List Tm)) (l : List Tm) (xs : List Value) (v : Value) (f : Nat) (W : World) : Prop where
  rd : RdAt W R s q
  gr : w.grownBy W (some R)
  row : W.ownsRow w.heap.size 25 4 v l.length xs
  cx : Cx G w.heap.size W v l xs
  hi : q ≤ s.size
  len : l.length ≤ q
  fg : f ≤ G
  fu : 2 * (s.size - q) < f
  eq : rk s f q m en l = T
theorem KI2.mk' {w : World} {R : Nat} {s : ByteArray} {G m en q f g1 cap1 : Nat} {T : PR (List Tm)} {l : List Tm} {d : Tm} {xs ys : List Value} {lv : Value} {w5 w7 : World} {o : Obj} (hrd : RdAt w5 R s q) (hgr : w.grownBy w5 (some R)) (hrow : w5.ownsRow w.heap.size 25 4 lv l.length xs) (hcx : Cx G w.heap.size w5 lv (l ++ [d]) (xs ++ ys)) (hown : w7.ownsRow w.heap.size 25 4 (.slice (some ⟨g1, 0, none⟩) (l.length + 1) cap1) (l.length + 1) (xs ++ ys)) (hg : (w5.alloc o).grownBy w7 lv.ownBlock) (hat : lv.ownBlock = some g1 ∨ g1 = w5.heap.size + 1) (hlo : R < w.heap.size) (hhi : q ≤ s.size) (hlen : (l ++ [d]).length ≤ q) (hfg : f ≤ G) (hfu : 2 * (s.size - q) < f) (heq : rk s f q m en (l ++ [d]) = T) :
    KI2 w R s G m en q T (l ++ [d]) (xs ++ ys) (.slice (some ⟨g1, 0, none⟩) (l.length + 1) cap1) f w7 := by
  have hal : Below w5.heap.size w5 (w5.alloc o) := (Below.refl _ _).alloc (Nat.le_refl _) _
  have hsal : (w5.alloc o).heap.size = w5.heap.size + 1 := by simp
  have hs := hg.size
  have hk : ∀ b, b < w5.heap.size → lv.ownBlock ≠ some b → w7.heap[b]? = w5.heap[b]? := fun b hb hne => (hg.block b (by omega) (fun e => hne e.symm)).trans (hal.block b hb)
  have hRn : lv.ownBlock ≠ some R := fun e => by have := (hrow.lt _ e).1; omega
  have hR5 := hrd.lt
  refine ⟨⟨(World.cell?_of_block (a := ⟨R, 0, none⟩) (hk R hR5 hRn)).trans hrd.text, (World.cell?_of_block (a := ⟨R, 1, none⟩) (hk R hR5 hRn)).trans hrd.at', (World.frozen?_of_block (a := ⟨R, 1, none⟩) (hk R hR5 hRn)).trans hrd.fz, by omega⟩, ⟨hg.os.trans hgr.os, hg.tape.trans hgr.tape, hg.output.trans hgr.output, by have := hgr.size; omega, fun b hb hne => (hk b (by have := hgr.size; omega) (fun e => by have := (hrow.lt _ e).1; omega)).trans (hgr.block b hb hne)⟩, by rw [List.length_append]; exact hown, ?_, hhi, hlen, hfg, hfu, heq⟩
  refine hcx.move (by omega) (fun b _ hlt hne => hk b hlt hne) (fun b hlt e => ?_)
  have e' : g1 = b := by simpa [Value.ownBlock] using e
  rcases hat with hat | hat
  · rw [← e']; exact hat
  · omega
/-- The first kid, built into a row. -/
theorem KI2.first {w : World} {R : Nat} {s : ByteArray} {G m en q : Nat} {T : PR (List Tm)} {d : Tm} {ta va : Option Addr} {tc vc : Nat} {w5 : World} (hrd : RdAt w5 R s q) (hgr : w.grownBy w5 (some R)) (h1 : MIx w5 (fun b => w.heap.size ≤ b ∧ b < w5.heap.size) G va d.kids) (h2 : Txx w5 (fun b => w.heap.size ≤ b ∧ b < w5.heap.size) (.slice ta d.text.length tc) d.text) (hvc : d.kids.length ≤ vc) (hhi : q ≤ s.size) (hlen : 1 ≤ q) (hfu : 2 * (s.size - q) < G) (heq : rk s G q m en [d] = T) :
    KI2 w R s G m en q T [d] [.int .i64 d.kind, .string d.cons, .slice ta d.text.length tc, .slice va d.kids.length vc] (.slice (some ⟨w5.heap.size, 0, none⟩) 1 1) G (w5.alloc (.cells #[.int .i64 d.kind, .string d.cons, .slice ta d.text.length tc, .slice va d.kids.length vc] 25)) := by
  have hal : Below w5.heap.size w5 (w5.alloc (.cells #[.int .i64 d.kind, .string d.cons, .slice ta d.text.length tc, .slice va d.kids.length vc] 25)) := (Below.refl _ _).alloc (Nat.le_refl _) _
  have hsal : (w5.alloc (.cells #[.int .i64 d.kind, .string d.cons, .slice ta d.text.length tc, .slice va d.kids.length vc] 25)).heap.size = w5.heap.size + 1 := by simp
  have hk : ∀ b, (w.heap.size ≤ b ∧ b < w5.heap.size) → (w5.alloc (.cells #[.int .i64 d.kind, .string d.cons, .slice ta d.text.length tc, .slice va d.kids.length vc] 25)).heap[b]? = w5.heap[b]? := fun b hb => hal.block b hb.2
  refine ⟨hrd.below hal hrd.lt, grown_tr hgr (grown_of_below hal _), row_one _ _ _ _ _ _ hgr.size, ?_, hhi, hlen, Nat.le_refl _, hfu, heq⟩
  exact Cx.snoc (Cx.nil G w.heap.size _ _) ⟨h1.keep hk, h2.keep hk⟩ (fun b hb => ⟨hb.1, by omega, fun e => by simp [Value.ownBlock] at e; omega⟩) hvc
set_option maxRecDepth 100000 in
set_option maxHeartbeats 8000000 in
theorem kids_step (R : Nat) (s : ByteArray) (hm : s.size ≤ 65536) (G : Nat) (HT : ∀ f, f ≤ G → ∀ p m w, RdAt w R s p → p ≤ s.size → 2 * (s.size - p) < f → m ≤ 202 → TCalls R s f p m w) (p m en : Nat) (w : World) (h : RdAt w R s p) (hp : p ≤ s.size) (hm2 : m ≤ 202) (hG : 2 * (s.size - p) < G) :
    Calls Tryd.prog 69 #[.pointer (some ⟨R, 0, none⟩), .int .i64 (m : Int), .int .u8 (en : Int)] w fun e w' => KPost R s G w (rkids s G p m en) e w' := by
  obtain ⟨i0, hinf, hz0, hz1, hz2⟩ := info_parts infoTerm
  have hfirst := HT G (Nat.le_refl _) p m w h hp hG hm2
  unfold TCalls at hfirst
  have HLO : Hid _ := h.lt
  unfold rkids
  cases hr : rt s G p m with
  | bad q c =>
    rw [hr] at hfirst
    have HC : Hid _ := fun (_ : Unit) => hfirst
    clear hr h hfirst
    go_enter Tryd.func69, Tryd.ntmps69
    go_wp2_with (go_at_call 51; refine (HC.out ()).mono ?_)
    first | rintro e w5 rfl hg5 | rintro e w5 ⟨rfl, hg5⟩
    have HG5 : Hid _ := hg5
    clear hg5
    simp only [FE]
    go_wp2
    refine ⟨rfl, ?_⟩
    exact ⟨rfl, HG5.out⟩
  | ok d0 q0 =>
    rw [hr] at hfirst
    have hpos := (rt_rk_pos s G).1 _ _ _ _ hp hr
    have HC : Hid _ := fun (_ : Unit) => hfirst
    have HTT : Hid _ := HT
    have HM : Hid _ := hm
    have HM2 : Hid _ := hm2
    have HQ0 : Hid (q0 ≤ s.size ∧ 1 ≤ q0 ∧ 2 * (s.size - q0) < G) := ⟨by omega, by omega, by omega⟩
    show Calls Tryd.prog 69 #[.pointer (some ⟨R, 0, none⟩), .int .i64 (m : Int), .int .u8 (en : Int)] w fun e w' => KPost R s G w (rk s G q0 m en [d0]) e w'
    obtain ⟨T, hTT⟩ : ∃ T, rk s G q0 m en [d0] = T := ⟨_, rfl⟩
    have HTE : Hid _ := hTT
    rw [hTT]
    clear hr h HT hm hp hG hm2 hpos hfirst hTT
    go_enter Tryd.func69, Tryd.ntmps69
    go_wp2_with (go_at_call 51; refine (HC.out ()).mono ?_)
    first | rintro e w2 ta tc va vc rfl hvc hmx htx hr2 hg2 | rintro e w2 ⟨⟨ta, tc, va, vc, rfl, hvc, hmx, htx⟩, hr2, hg2⟩
    have HST : Hid _ := KI2.first (w := w) (G := G) (m := m) (en := en) (T := T) hr2 hg2 hmx htx hvc HQ0.out.1 HQ0.out.2.1 HQ0.out.2.2 HTE.out
    clear hr2 hg2 hmx htx
    go_wp2
    go_loopw [7] (fun v W => ∃ q l xs f, KI2 w R s G m en q T l xs v f W) (fun _ W => s.size - pos R W)
    case atStart => exact ⟨q0, [d0], _, G, HST.out⟩
    case round =>
      obtain ⟨q, l, xs, f, hI⟩ := hrel
      obtain ⟨f1, rfl⟩ : ∃ f1, f = f1 + 1 := ⟨f - 1, by have := hI.fu; omega⟩
      have HI : Hid _ := hI
      have HEQ : Hid (T = rk s (f1 + 1) q m en l) := hI.eq.symm
      have HMS : Hid (pos R wr = q) := hI.rd.pos
      obtain ⟨la, lc, hla⟩ := row_slice hI.row
      subst hla
      obtain ⟨k, hk⟩ : ∃ k, skp s q = k := ⟨_, rfl⟩
      have hkq := skp_ge s q
      have hks := skp_le s q hI.hi
      have hkk := skp_skp s q
      rw [hk] at hkq hks hkk
      have hN := next_any R s q wr hI.rd hI.hi HM.out
      have hN2 := fun (W : World) (hW : RdAt W R s k) => next_any R s k W hW hks HM.out
      unfold rnext at hN hN2
      rw [hk] at hN
      simp only [hkk] at hN2
      have hK65 : (k : Int) ≤ 65536 := by have := HM.out; omega
      have HQK : Hid (q ≤ k ∧ k ≤ s.size) := ⟨hkq, hks⟩
      have hlen : l.length ≤ 65536 := by have := hI.len; have := HM.out; have := hI.hi; omega
      by_cases hqs : s.size ≤ k
      · rw [if_pos hqs] at hN
        have HN : Hid _ := fun (_ : Unit) => hN
        have HP : Hid (T = .bad k 14) := by show _ = _; rw [HEQ.out, rk, hk, if_pos hqs]
        clear hI hqs hN hN2 hk hkq hks hkk
        go_wp2_with (go_at_call 66; refine (HN.out ()).mono ?_)
        first | rintro e w' rfl hg | rintro e w' ⟨rfl, hg⟩
        have HG : Hid _ := grown_tr HI.out.gr hg
        clear hg
        simp only [FE]
        go_wp2
        refine ⟨rfl, ?_⟩
        rw [HP.out]
        exact ⟨rfl, HG.out⟩
      · rw [if_neg hqs] at hN
        simp only [if_neg hqs] at hN2
        have HN : Hid _ := fun (_ : Unit) => hN
        have HN2 : Hid _ := hN2
        by_cases hen : bt s k = en
        · have HP : Hid (T = .ok l (k + 1)) := by show _ = _; rw [HEQ.out, rk, hk, if_neg hqs, if_pos hen]
          rw [hen] at HN
          clear hI hqs hN hN2 hk hkq hks hkk hen
          go_wp2_with (go_at_call 66; refine (HN.out ()).mono ?_)
          first | rintro e w3 rfl h3 g3 | rintro e w3 ⟨rfl, h3, g3⟩
          have q1 := h3.at'
          have q2 := h3.fz
          have HF : Hid (KPost R s G w (.ok l (k + 1)) (.returned (.slice la l.length lc)) (w3.setCell ⟨R, 1, none⟩ (.int .i64 ((k : Int) + 1)))) := ⟨⟨_, xs, rfl, row_grown (row_grown HI.out.row g3 HLO.out) (grown_set _ _ _ _) HLO.out, cx_grown (cx_grown HI.out.cx g3 HLO.out) (grown_set _ _ _ _) HLO.out, hlen⟩, h3.put (k + 1), grown_tr (grown_tr HI.out.gr g3) (grown_set _ _ _ _)⟩
          clear h3 g3
          go_wp2
          go_ret
          rw [HP.out]
          exact HF.out
        · have hc1 : ((bt s k : Int) != (en : Int)) = true := by simp; omega
          have hn1 : ¬ (bt s k : Int) = (en : Int) := by omega
          by_cases h44 : bt s k = 44
          · have HRK : Hid (rk s (f1 + 1) q m en l = match rt s f1 (k + 1) m with | .bad q c => .bad q c | .ok d q => rk s f1 q m en (l ++ [d])) := by show _ = _; rw [rk, hk, if_neg hqs, if_neg hen, if_neg (by simp [h44])]; rfl
            rw [h44] at HN HN2 hc1 hn1
            have HF1 : Hid (f1 ≤ G) := by have := hI.fg; show _ ≤ _; omega
            have HFU : Hid (2 * (s.size - (k + 1)) < f1) := by have := hI.fu; show _ < _; omega
            have HK1 : Hid (k + 1 ≤ s.size) := by show _ ≤ _; omega
            clear hI hqs hN hN2 hk hkq hks hkk hen h44
            go_wp2_with (go_at_call 66; refine (HN.out ()).mono ?_)
            first | rintro e w3 rfl h3 g3 | rintro e w3 ⟨rfl, h3, g3⟩
            have HR3 : Hid _ := h3
            have HG3 : Hid _ := g3
            clear h3 g3
            go_wp2_with (go_at_call 66; refine (HN2.out _ HR3.out).mono ?_)
            first | rintro e w4 rfl h4 g4 | rintro e w4 ⟨rfl, h4, g4⟩
            have q1 := h4.at'
            have q2 := h4.fz
            have h4p := h4.put (k + 1)
            push_cast at h4p
            have hg4p := grown_tr (grown_tr HG3.out g4) (grown_set w4 R 1 (.int .i64 ((k : Int) + 1)))
            obtain ⟨w4p, hw4p⟩ : ∃ W, w4.setCell ⟨R, 1, none⟩ (.int .i64 ((k : Int) + 1)) = W := ⟨_, rfl⟩
            rw [hw4p] at h4p hg4p
            have htc := HTT.out f1 HF1.out (k + 1) m w4p h4p HK1.out HFU.out HM2.out
            unfold TCalls at htc
            have HG4 : Hid _ := grown_tr HI.out.gr hg4p
            have HX4 : Hid (w4p.ownsRow w.heap.size 25 4 (.slice la l.length lc) l.length xs ∧ Cx G w.heap.size w4p (.slice la l.length lc) l xs) := ⟨row_grown HI.out.row hg4p HLO.out, cx_grown HI.out.cx hg4p HLO.out⟩
            rw [← hw4p] at htc
            have HW4 : Hid _ := hw4p
            clear h4 g4 h4p hg4p hw4p
            cases hr : rt s f1 (k + 1) m with
            | bad qb cb =>
              rw [hr] at htc
              have HP : Hid (T = .bad qb cb) := HEQ.out.trans (HRK.out.trans (by rw [hr]))
              have HTC : Hid _ := fun (_ : Unit) => htc
              clear hr htc
              go_wp2_with (go_at_call 51; refine (HTC.out ()).mono ?_)
              first | rintro e w5 rfl hg5 | rintro e w5 ⟨rfl, hg5⟩
              rw [HW4.out] at hg5
              have HG5 : Hid _ := grown_tr HG4.out hg5
              clear hg5
              simp only [FE]
              go_wp2
              refine ⟨rfl, ?_⟩
              rw [HP.out]
              exact ⟨rfl, HG5.out⟩
            | ok d qn =>
              rw [hr] at htc
              have hp2 := (rt_rk_pos s f1).1 _ _ _ _ HK1.out hr
              have HEQ2 : Hid (rk s f1 qn m en (l ++ [d]) = T) := (HEQ.out.trans (HRK.out.trans (by rw [hr]))).symm
              have HTC : Hid _ := fun (_ : Unit) => htc
              have HP2 : Hid _ := hp2
              clear hr htc hp2
              go_wp2_with (go_at_call 51; refine (HTC.out ()).mono ?_)
              first | rintro e w5 ta5 tc5 va5 vc5 rfl hvc5 hmx5 htx5 hrd5 hg5 | rintro e w5 ⟨⟨ta5, tc5, va5, vc5, rfl, hvc5, hmx5, htx5⟩, hrd5, hg5⟩
              rw [HW4.out] at hg5 hmx5 htx5
              have hs5 := hg5.size
              have hrow5 := row_grown HX4.out.1 hg5 HLO.out
              have hcx5 := cx_grown HX4.out.2 hg5 HLO.out
              have hmG : MIx w5 (fun b => w4p.heap.size ≤ b ∧ b < w5.heap.size) G va5 d.kids := by
                have := hmx5.le (G - f1); rw [show f1 + (G - f1) = G by have := HF1.out; omega] at this; exact this
              have hfar : ∀ b, (w4p.heap.size ≤ b ∧ b < w5.heap.size) → w.heap.size ≤ b ∧ b < w5.heap.size ∧ (Value.slice la l.length lc).ownBlock ≠ some b := fun b hb => ⟨by have := HG4.out.size; omega, hb.2, fun e => by have := (HX4.out.1.lt b e).2; omega⟩
              have HSN : Hid _ := hcx5.snoc ⟨hmG, htx5⟩ hfar hvc5
              have hnew := World.ownsRow.alloc (w := w5) hrow5 (.cells #[.int .i64 d.kind, .string d.cons, .slice ta5 d.text.length tc5, .slice va5 d.kids.length vc5] 25)
              have HR5 : Hid _ := hrd5
              have HG5 : Hid _ := grown_tr HG4.out hg5
              have HRW5 : Hid _ := fun (_ : Unit) => hrow5
              have hb5 : w.heap.size ≤ w5.heap.size := HG5.out.size
              clear hmx5 htx5 hrow5 hcx5 hmG hfar hrd5 hg5 hvc5
              go_wp2_with (at_builtin; refine wpList_append_lies _ rfl _ _ 23 rfl w.heap.size 25 i0 _ 4 72 Tryd.underlying23 hinf hz0 hz1 hz2 rfl (by decide) _ _ _ rfl hnew ⟨w5.heap.size, 0, none⟩ 1 1 [.int .i64 d.kind, .string d.cons, .slice ta5 d.text.length tc5, .slice va5 d.kids.length vc5] rfl rfl ?ca1 ?ca2 (by decide) ?ca3 ?ca4 ?ca5 (w5.heap.size + 1) (by simp) ?_)
              case ca1 => exact cell_four_new _ _ _ _ _ _
              case ca2 => first | rfl | (intro u hu; simp at hu; rcases hu with rfl | rfl | rfl | rfl <;> rfl)
              case ca3 => unfold maxLen; omega
              case ca4 => omega
              case ca5 => simp; omega
              intro g1 cap1 w7 hown7 hgrow hat _
              have HFN : Hid (KI2 w R s G m en qn T (l ++ [d]) _ (.slice (some ⟨g1, 0, none⟩) (l.length + 1) cap1) f1 w7) := KI2.mk' HR5.out HG5.out (HRW5.out ()) HSN.out hown7 hgrow hat HLO.out HP2.out.2 (by have := HI.out.len; have := HP2.out; have := HQK.out; simp; omega) HF1.out (by have := HFU.out; have := HP2.out; omega) HEQ2.out
              have HMS2 : Hid _ := HFN.out.rd.pos
              clear hown7 hgrow hat hnew
              go_wp2
              go_roundw
              case rel => exact ⟨qn, l ++ [d], _, f1, HFN.out⟩
              case measure => rw [HMS2.out, HMS.out]; have := HP2.out; have := HQK.out; omega
          · have HP : Hid (T = .bad k 11) := by show _ = _; rw [HEQ.out, rk, hk, if_neg hqs, if_neg hen, if_pos h44]
            have hc2 : ((bt s k : Int) != 44) = true := by simp; omega
            have hn2 : ¬ (bt s k : Int) = 44 := by omega
            have HF : Hid (∀ W, _) := fun W => fail_any R k 11 W
            clear hI hqs hN hN2 hk hkq hks hkk hen h44
            go_wp2_with (go_at_call 66; refine (HN.out ()).mono ?_)
            first | rintro e w3 rfl h3 g3 | rintro e w3 ⟨rfl, h3, g3⟩
            have HR3 : Hid _ := h3
            have HG3 : Hid _ := g3
            clear h3 g3
            go_wp2_with (go_at_call 66; refine (HN2.out _ HR3.out).mono ?_)
            first | rintro e w4 rfl h4 g4 | rintro e w4 ⟨rfl, h4, g4⟩
            have q1 := h4.at'
            have HG4 : Hid _ := grown_tr (grown_tr HI.out.gr HG3.out) g4
            clear h4 g4
            go_wp2_with (go_at_call 53; refine (HF.out _).mono ?_)
            first | rintro e w9 rfl rfl | rintro e w9 ⟨rfl, rfl⟩
            simp only [FE]
            go_wp2
            refine ⟨rfl, ?_⟩
            rw [HP.out]
            exact ⟨rfl, HG4.out⟩
end Go.Proofs.YtlkcadibjmfmcaaDoor
