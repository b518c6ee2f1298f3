/- A tree's text, read: kids, trees, and the whole. -/
import Derived.Test.YtlnlkbkmnkjbhaaDoorQa
import Derived.Defers
import Derived.Recover
import Derived.BigRegion
namespace Go.Proofs.YtlnlkbkmnkjbhaaDoor
open Go.RowKit

section
open Go.RowKit Go.Shelf

theorem row_ab' {X Y : World} {B : Nat} {e : TypeId} {k : Nat} {v : Value} {n : Nat} {xs : List Value} (h : X.ownsRow B e k v n xs) (hk : ∀ g, v.ownBlock = some g → Y.heap[g]? = X.heap[g]?) : Y.ownsRow B e k v n xs := by
  refine ⟨h.1, ?_⟩
  rcases h.2 with h0 | ⟨g, cap, cur, rfl, hbg, hg, rest⟩
  · exact .inl h0
  · exact .inr ⟨g, cap, cur, rfl, hbg, (hk g rfl).trans hg, rest⟩
theorem row_grown {W W' : World} {B R : Nat} {e : TypeId} {k : Nat} {v : Value} {n : Nat} {xs : List Value} (h : W.ownsRow B e k v n xs) (hg : W.grownBy W' (some R)) (hR : R < B) : W'.ownsRow B e k v n xs :=
  row_ab' h (fun g hg' => hg.block g (h.lt g hg').2 (fun e => by cases e; have := (h.lt _ hg').1; omega))
theorem cx_grown {W W' : World} {B R f : Nat} {v : Value} {l : List Tr} {xs : List Value} (h : Cx f B W v l xs) (hg : W.grownBy W' (some R)) (hR : R < B) : Cx f B W' v l xs :=
  h.move hg.size (fun b hb hlt _ q => hg.cell_far ⟨b, q, none⟩ hlt (fun e => by simp at e; omega)) (fun _ _ e => e)
/-- While kids are read. -/
structure KI2 (w : World) (R : Nat) (s : ByteArray) (G q0 m q : Nat) (l : List Tr) (xs : List Value) (v : Value) (f : Nat) (W : World) : Prop where
  rd : RdAt W R s q
  gr : w.grownBy W (some R)
  row : W.ownsRow w.heap.size 27 3 v l.length xs
  cx : Cx G w.heap.size W v l xs
  hi : q ≤ s.size
  len : l.length ≤ q
  fg : f ≤ G
  fu : 2 * (s.size - q) + 1 < f
  eq : rk s f q m l = rk s G q0 m []
theorem KI2.mk' {w : World} {R : Nat} {s : ByteArray} {G q0 m q f g1 cap1 : Nat} {l : List Tr} {d : Tr} {xs ys : List Value} {lv : Value} {w5 w7 : World} {o : Obj} (hrd : RdAt w5 R s q) (hgr : w.grownBy w5 (some R)) (hrow : w5.ownsRow w.heap.size 27 3 lv l.length xs) (hcx : Cx G w.heap.size w5 lv (l ++ [d]) (xs ++ ys)) (hown : w7.ownsRow w.heap.size 27 3 (.slice (some ⟨g1, 0, none⟩) (l.length + 1) cap1) (l.length + 1) (xs ++ ys)) (hg : (w5.alloc o).grownBy w7 lv.ownBlock) (hat : lv.ownBlock = some g1 ∨ g1 = w5.heap.size + 1) (hlo : R < w.heap.size) (hhi : q ≤ s.size) (hlen : (l ++ [d]).length ≤ q) (hfg : f ≤ G) (hfu : 2 * (s.size - q) + 1 < f) (heq : rk s f q m (l ++ [d]) = rk s G q0 m []) :
    KI2 w R s G q0 m q (l ++ [d]) (xs ++ ys) (.slice (some ⟨g1, 0, none⟩) (l.length + 1) cap1) f w7 := by
  have hal : Below w5.heap.size w5 (w5.alloc o) := (Below.refl _ _).alloc (Nat.le_refl _) _
  have hsal : (w5.alloc o).heap.size = w5.heap.size + 1 := by simp
  have hs := hg.size
  have hk : ∀ b, b < w5.heap.size → lv.ownBlock ≠ some b → w7.heap[b]? = w5.heap[b]? := fun b hb hne => (hg.block b (by omega) (fun e => hne e.symm)).trans (hal.block b hb)
  have hRn : lv.ownBlock ≠ some R := fun e => by have := (hrow.lt _ e).1; omega
  have hR5 := hrd.lt
  refine ⟨⟨(World.cell?_of_block (a := ⟨R, 0, none⟩) (hk R hR5 hRn)).trans hrd.text, (World.cell?_of_block (a := ⟨R, 1, none⟩) (hk R hR5 hRn)).trans hrd.at', (World.frozen?_of_block (a := ⟨R, 1, none⟩) (hk R hR5 hRn)).trans hrd.fz, by omega⟩, ⟨hg.os.trans hgr.os, hg.tape.trans hgr.tape, hg.output.trans hgr.output, by have := hgr.size; omega, fun b hb hne => (hk b (by have := hgr.size; omega) (fun e => by have := (hrow.lt _ e).1; omega)).trans (hgr.block b hb hne)⟩, by rw [List.length_append]; exact hown, ?_, hhi, hlen, hfg, hfu, heq⟩
  refine hcx.move (by omega) (fun b _ hlt hne q => World.cell?_of_block (a := ⟨b, q, none⟩) (hk b hlt hne)) (fun b hlt e => ?_)
  have e' : g1 = b := by simpa [Value.ownBlock] using e
  rcases hat with hat | hat
  · rw [← e']; exact hat
  · omega
/-- Kids in brackets. -/
def rkids (s : ByteArray) (G p m : Nat) : PR (List Tr) :=
  match rwant s p 40 with
  | .bad q c => .bad q c
  | .ok _ q => rk s G q m []
set_option maxRecDepth 100000 in
set_option maxHeartbeats 8000000 in
theorem kids_step (R : Nat) (s : ByteArray) (hm : s.size ≤ 65536) (G : Nat) (HT : ∀ f, f ≤ G → ∀ p m w, RdAt w R s p → p ≤ s.size → 2 * (s.size - p) < f → m ≤ 202 → TCalls R s f p m w) (p m : Nat) (w : World) (h : RdAt w R s p) (hp : p ≤ s.size) (hm2 : m ≤ 202) (hG : 2 * (s.size - p) ≤ G) :
    Calls Tryd.prog 81 #[.pointer (some ⟨R, 0, none⟩), .int .i64 (m : Int)] w fun e w' => KPost R s G w (rkids s G p m) e w' := by
  obtain ⟨i0, hinf, hz0, hz1, hz2⟩ := info_parts info24
  have HWT := want_any R s p 40 w h hp hm
  have HLO : Hid _ := h.lt
  unfold rkids
  cases hw : rwant s p 40 with
  | bad q c =>
    rw [hw] at HWT
    replace HWT : Hid _ := fun (_ : Unit) => HWT
    clear hw h
    go_enter Tryd.func81, Tryd.ntmps81
    go_wp2_with (go_at_call 88; refine (HWT.out ()).mono ?_)
    first | rintro e w5 rfl hg5 | rintro e w5 ⟨rfl, hg5⟩
    have HG5 : Hid _ := hg5
    clear hg5
    simp only [FE]
    go_wp2
    refine ⟨rfl, ?_⟩
    exact ⟨rfl, HG5.out⟩
  | ok u q0 =>
    rw [hw] at HWT
    have hq0 := rwant_pos hw
    replace HWT : Hid _ := fun (_ : Unit) => HWT
    have HTT : Hid _ := HT
    have HM : Hid _ := hm
    have HM2 : Hid _ := hm2
    have HQ0 : Hid (q0 ≤ s.size ∧ 2 * (s.size - q0) + 1 < G) := ⟨by omega, by omega⟩
    clear hw h HT hm hp hG hm2 hq0
    show Calls Tryd.prog 81 #[.pointer (some ⟨R, 0, none⟩), .int .i64 (m : Int)] w fun e w' => KPost R s G w (rk s G q0 m []) e w'
    go_enter Tryd.func81, Tryd.ntmps81
    go_wp2_with (go_at_call 88; refine (HWT.out ()).mono ?_)
    first | rintro e w2 rfl hr2 hg2 | rintro e w2 ⟨rfl, hr2, hg2⟩
    have HST : Hid (KI2 w R s G q0 m q0 [] [] (.slice none 0 0) G w2) := ⟨hr2, hg2, World.ownsRow_nil _ _ _ _, Cx.nil _ _ _ _, HQ0.out.1, by simp, Nat.le_refl _, HQ0.out.2, rfl⟩
    clear hr2 hg2
    go_wp2
    go_loopw [5] (fun v W => ∃ q l xs f, KI2 w R s G q0 m q l xs v f W) (fun _ W => s.size - pos R W)
    case atStart => exact ⟨q0, [], [], G, HST.out⟩
    case round =>
      obtain ⟨q, l, xs, f, hI⟩ := hrel
      obtain ⟨f1, rfl⟩ : ∃ f1, f = f1 + 1 := ⟨f - 1, by have := hI.fu; omega⟩
      have HI : Hid _ := hI
      have HEQ : Hid (rk s G q0 m [] = rk s (f1 + 1) q m l) := hI.eq.symm
      have HMS : Hid (pos R wr = q) := hI.rd.pos
      have hlen := hI.len
      have hq65 : (q : Int) ≤ 65536 := by have := HM.out; have := hI.hi; omega
      have HLL : Hid (l.length ≤ q) := hI.len
      obtain ⟨la, lc, hla⟩ := row_slice hI.row
      subst hla
      by_cases hqs : s.size ≤ q
      · have hqe : q = s.size := by have := hI.hi; omega
        have HN : Hid _ := fun (_ : Unit) => next_end R s wr (by rw [← hqe]; exact hI.rd)
        have HP : Hid (rk s G q0 m [] = .bad s.size 14) := by show _ = _; rw [HEQ.out, rk, if_pos hqs, hqe]
        clear hI hqs hqe hq65
        go_wp2_with (go_at_call 77; refine (HN.out ()).mono ?_)
        first | rintro e w' rfl hb | rintro e w' ⟨rfl, hb⟩
        have HG : Hid _ := grown_tr HI.out.gr (grown_of_below hb (some R))
        clear hb
        simp only [FE]
        go_wp2
        refine ⟨rfl, ?_⟩
        show KPost R s G w (rk s G q0 m []) _ _
        rw [HP.out]
        exact ⟨rfl, HG.out⟩
      · have hlt : q < s.size := by omega
        have HQS : Hid _ := hlt
        have HN : Hid (∀ W, RdAt W R s q → _) := fun W h => next_bt R s q W h hlt
        by_cases h41 : bt s q = 41
        · have HP : Hid (rk s G q0 m [] = .ok l (q + 1)) := by show _ = _; rw [HEQ.out, rk, if_neg hqs, if_pos h41]
          rw [h41] at HN
          have hll : l.length ≤ 65536 := by omega
          clear hI hqs h41 hlt
          go_wp2_with (go_at_call 77; refine (HN.out _ HI.out.rd).mono ?_)
          first | rintro e w3 rfl hb3 | rintro e w3 ⟨rfl, hb3⟩
          have h3 := HI.out.rd.below hb3 HI.out.rd.lt
          have q1 := h3.at'
          have q2 := h3.fz
          have g3 := grown_tr HI.out.gr (grown_of_below hb3 (some R))
          have HF : Hid (KPost R s G w (.ok l (q + 1)) (.returned (.slice la l.length lc)) (w3.setCell ⟨R, 1, none⟩ (.int .i64 ((q : Int) + 1)))) := ⟨⟨_, xs, rfl, row_grown (row_below HI.out.row hb3) (grown_set _ _ _ _) HLO.out, cx_grown (HI.out.cx.below hb3) (grown_set _ _ _ _) HLO.out, hll⟩, h3.put (q + 1), grown_tr g3 (grown_set _ _ _ _)⟩
          clear h3 g3 hb3
          go_wp2
          go_ret
          show KPost R s G w (rk s G q0 m []) _ _
          rw [HP.out]
          exact HF.out
        · have hc41 : ((bt s q : Int) != 41) = true := by simp; omega
          have hn41 : ¬ (bt s q : Int) = 41 := by omega
          have HF1 : Hid (f1 ≤ G) := by have := hI.fg; show _ ≤ _; omega
          have HFU : Hid (2 * (s.size - q) < f1) := by have := hI.fu; show _ < _; omega
          by_cases hl0 : l = []
          · have HRK : Hid (rk s (f1 + 1) q m l = match rt s f1 q m with | .bad q c => .bad q c | .ok d q => rk s f1 q m (l ++ [d])) := by show _ = _; rw [rk, if_neg hqs, if_neg h41, if_pos hl0]; rfl
            have hl00 : l.length = 0 := by rw [hl0]; rfl
            have hld : decide ((0 : Int) < (l.length : Int)) = false := by simp; omega
            have hln : ¬ (0 : Int) < (l.length : Int) := by omega
            have HL00 : Hid _ := hl00
            clear hI hqs h41 hlt hl0 hl00
            go_wp2_with (go_at_call 77; refine (HN.out _ HI.out.rd).mono ?_)
            first | rintro e w3 rfl hb3 | rintro e w3 ⟨rfl, hb3⟩
            have HR0 : Hid _ := HI.out.rd.below hb3 HI.out.rd.lt
            have HG0 : Hid _ := grown_tr HI.out.gr (grown_of_below hb3 (some R))
            have HX0 : Hid (w3.ownsRow w.heap.size 27 3 (.slice la l.length lc) l.length xs ∧ Cx G w.heap.size w3 (.slice la l.length lc) l xs) := ⟨row_below HI.out.row hb3, HI.out.cx.below hb3⟩
            have htc := HTT.out f1 HF1.out q m w3 HR0.out (by have := HQS.out; omega) HFU.out HM2.out
            unfold TCalls at htc
            have HTC : Hid _ := fun (_ : Unit) => htc
            clear hb3 htc
            cases hr : rt s f1 q m with
            | bad q2 c2 =>
              rw [hr] at HTC
              have HP : Hid (rk s G q0 m [] = .bad q2 c2) := HEQ.out.trans (HRK.out.trans (by rw [hr]))
              clear hr
              go_wp2_with (go_at_call 58; refine (HTC.out ()).mono ?_)
              first | rintro e w5 rfl hg5 | rintro e w5 ⟨rfl, hg5⟩
              have HG5 : Hid _ := grown_tr HG0.out hg5
              clear hg5
              simp only [FE]
              go_wp2
              refine ⟨rfl, ?_⟩
              show KPost R s G w (rk s G q0 m []) _ _
              rw [HP.out]
              exact ⟨rfl, HG5.out⟩
            | ok d q2 =>
              rw [hr] at HTC
              have hp2 := (rt_rk_pos s f1).1 _ _ _ _ hr
              have HEQ2 : Hid (rk s f1 q2 m (l ++ [d]) = rk s G q0 m []) := (HEQ.out.trans (HRK.out.trans (by rw [hr]))).symm
              clear hr
              go_wp2_with (go_at_call 58; refine (HTC.out ()).mono ?_)
              first | rintro e w5 va vc rfl hvc htin hrd5 hg5 | rintro e w5 ⟨⟨va, vc, rfl, hvc, htin⟩, hrd5, hg5⟩
              have hs5 := hg5.size
              have hrow5 := row_grown HX0.out.1 hg5 (by have := HLO.out; omega)
              have hcx5 := cx_grown HX0.out.2 hg5 (by have := HLO.out; omega)
              have htG : TIn w5 (fun b => w3.heap.size ≤ b ∧ b < w5.heap.size) G va d.kids := by
                have := htin.le (G - f1); rw [show f1 + (G - f1) = G by have := HF1.out; omega] at this; exact this
              have hfar : ∀ b, (w3.heap.size ≤ b ∧ b < w5.heap.size) → w.heap.size ≤ b ∧ b < w5.heap.size ∧ (Value.slice la l.length lc).ownBlock ≠ some b := fun b hb => ⟨by have := HG0.out.size; omega, hb.2, fun e => by have := (HX0.out.1.lt b e).2; omega⟩
              have HSN : Hid _ := hcx5.snoc htG hfar hvc
              have hnew := World.ownsRow.alloc (w := w5) hrow5 (.cells #[.int .i64 d.rule, .int .u8 (d.byte.toNat : Int), .slice va d.kids.length vc] 27)
              have HR5 : Hid _ := hrd5
              have HG5 : Hid _ := grown_tr HG0.out hg5
              have HRW5 : Hid _ := fun (_ : Unit) => hrow5
              clear htin hrow5 hcx5 htG hfar hrd5 hg5 hvc
              go_wp2_with (at_builtin; refine wpList_append_lies _ rfl _ _ 25 rfl w.heap.size 27 i0 _ 3 40 Tryd.underlying25 hinf hz0 hz1 hz2 rfl (by decide) _ _ _ rfl hnew ⟨w5.heap.size, 0, none⟩ 1 1 [.int .i64 d.rule, .int .u8 (d.byte.toNat : Int), .slice va d.kids.length vc] rfl rfl ?ca1 ?ca2 (by decide) ?ca3 ?ca4 ?ca5 (w5.heap.size + 1) (by simp) ?_)
              case ca1 => exact cell_three_new _ _ _ _ _
              case ca2 => first | rfl | (intro u hu; simp at hu; rcases hu with rfl | rfl | rfl <;> rfl)
              case ca3 => unfold maxLen; omega
              case ca4 => omega
              case ca5 => have := HG5.out.size; simp; omega
              intro g1 cap1 w7 hown7 hgrow hat _
              have HFN : Hid (KI2 w R s G q0 m q2 (l ++ [d]) _ (.slice (some ⟨g1, 0, none⟩) (l.length + 1) cap1) f1 w7) := KI2.mk' HR5.out HG5.out (HRW5.out ()) HSN.out hown7 hgrow hat HLO.out hp2.2 (by have := HLL.out; simp; omega) HF1.out (by have := HFU.out; omega) HEQ2.out
              have HMS2 : Hid _ := HFN.out.rd.pos
              clear hown7 hgrow hat hnew
              go_wp2
              go_roundw
              case rel => exact ⟨q2, l ++ [d], _, f1, HFN.out⟩
              case measure => rw [HMS2.out, HMS.out]; have := HQS.out; omega
          · have hwn : rk s (f1 + 1) q m l = match rwant s q 32 with | .bad q c => .bad q c | .ok _ q' => (match rt s f1 q' m with | .bad q c => .bad q c | .ok d q => rk s f1 q m (l ++ [d])) := by rw [rk, if_neg hqs, if_neg h41, if_neg hl0]; rfl
            have hl00 : 0 < l.length := List.length_pos_iff.2 hl0
            have hld : decide ((0 : Int) < (l.length : Int)) = true := by simp; omega
            have hln : (0 : Int) < (l.length : Int) := by omega
            have HWQ : Hid (∀ W, RdAt W R s q → _) := fun W h => want_any R s q 32 W h (by omega) HM.out
            cases hw : rwant s q 32 with
            | bad q2 c2 =>
              rw [hw] at hwn HWQ
              have HP : Hid (rk s G q0 m [] = .bad q2 c2) := HEQ.out.trans hwn
              clear hI hqs h41 hlt hl0 hl00 hwn hw
              go_wp2_with (go_at_call 77; refine (HN.out _ HI.out.rd).mono ?_)
              first | rintro e w3 rfl hb3 | rintro e w3 ⟨rfl, hb3⟩
              have HR0 : Hid _ := HI.out.rd.below hb3 HI.out.rd.lt
              have HG0 : Hid _ := grown_tr HI.out.gr (grown_of_below hb3 (some R))
              clear hb3
              go_wp2_with (go_at_call 88; refine (HWQ.out _ HR0.out).mono ?_)
              first | rintro e w5 rfl hg5 | rintro e w5 ⟨rfl, hg5⟩
              have HG5 : Hid _ := grown_tr HG0.out hg5
              clear hg5
              simp only [FE]
              go_wp2
              refine ⟨rfl, ?_⟩
              show KPost R s G w (rk s G q0 m []) _ _
              rw [HP.out]
              exact ⟨rfl, HG5.out⟩
            | ok u1 q1 =>
              have hq1 := rwant_pos hw
              rw [hw] at hwn HWQ
              have HRK : Hid (rk s (f1 + 1) q m l = match rt s f1 q1 m with | .bad q c => .bad q c | .ok d q => rk s f1 q m (l ++ [d])) := hwn
              have HQ1 : Hid _ := hq1
              clear hI hqs h41 hlt hl0 hl00 hwn hw hq1
              go_wp2_with (go_at_call 77; refine (HN.out _ HI.out.rd).mono ?_)
              first | rintro e w3 rfl hb3 | rintro e w3 ⟨rfl, hb3⟩
              have HR3 : Hid _ := HI.out.rd.below hb3 HI.out.rd.lt
              have HG3 : Hid _ := grown_tr HI.out.gr (grown_of_below hb3 (some R))
              have HX3 : Hid (w3.ownsRow w.heap.size 27 3 (.slice la l.length lc) l.length xs ∧ Cx G w.heap.size w3 (.slice la l.length lc) l xs) := ⟨row_below HI.out.row hb3, HI.out.cx.below hb3⟩
              clear hb3
              go_wp2_with (go_at_call 88; refine (HWQ.out _ HR3.out).mono ?_)
              first | rintro e w4 rfl hr4 hg4 | rintro e w4 ⟨rfl, hr4, hg4⟩
              have HR0 : Hid _ := hr4
              have HG0 : Hid _ := grown_tr HG3.out hg4
              have HX0 : Hid (w4.ownsRow w.heap.size 27 3 (.slice la l.length lc) l.length xs ∧ Cx G w.heap.size w4 (.slice la l.length lc) l xs) := ⟨row_grown HX3.out.1 hg4 HLO.out, cx_grown HX3.out.2 hg4 HLO.out⟩
              have htc := HTT.out f1 HF1.out q1 m w4 HR0.out HQ1.out.2 (by have := HFU.out; have := HQ1.out; omega) HM2.out
              unfold TCalls at htc
              have HTC : Hid _ := fun (_ : Unit) => htc
              clear hr4 hg4 htc
              cases hr : rt s f1 q1 m with
              | bad q2 c2 =>
                rw [hr] at HTC
                have HP : Hid (rk s G q0 m [] = .bad q2 c2) := HEQ.out.trans (HRK.out.trans (by rw [hr]))
                clear hr
                go_wp2_with (go_at_call 58; refine (HTC.out ()).mono ?_)
                first | rintro e w5 rfl hg5 | rintro e w5 ⟨rfl, hg5⟩
                have HG5 : Hid _ := grown_tr HG0.out hg5
                clear hg5
                simp only [FE]
                go_wp2
                refine ⟨rfl, ?_⟩
                show KPost R s G w (rk s G q0 m []) _ _
                rw [HP.out]
                exact ⟨rfl, HG5.out⟩
              | ok d q2 =>
                rw [hr] at HTC
                have hp2 := (rt_rk_pos s f1).1 _ _ _ _ hr
                have HEQ2 : Hid (rk s f1 q2 m (l ++ [d]) = rk s G q0 m []) := (HEQ.out.trans (HRK.out.trans (by rw [hr]))).symm
                clear hr
                go_wp2_with (go_at_call 58; refine (HTC.out ()).mono ?_)
                first | rintro e w5 va vc rfl hvc htin hrd5 hg5 | rintro e w5 ⟨⟨va, vc, rfl, hvc, htin⟩, hrd5, hg5⟩
                have hs5 := hg5.size
                have hrow5 := row_grown HX0.out.1 hg5 (by have := HLO.out; omega)
                have hcx5 := cx_grown HX0.out.2 hg5 (by have := HLO.out; omega)
                have htG : TIn w5 (fun b => w4.heap.size ≤ b ∧ b < w5.heap.size) G va d.kids := by
                  have := htin.le (G - f1); rw [show f1 + (G - f1) = G by have := HF1.out; omega] at this; exact this
                have hfar : ∀ b, (w4.heap.size ≤ b ∧ b < w5.heap.size) → w.heap.size ≤ b ∧ b < w5.heap.size ∧ (Value.slice la l.length lc).ownBlock ≠ some b := fun b hb => ⟨by have := HG0.out.size; omega, hb.2, fun e => by have := (HX0.out.1.lt b e).2; omega⟩
                have HSN : Hid _ := hcx5.snoc htG hfar hvc
                have hnew := World.ownsRow.alloc (w := w5) hrow5 (.cells #[.int .i64 d.rule, .int .u8 (d.byte.toNat : Int), .slice va d.kids.length vc] 27)
                have HR5 : Hid _ := hrd5
                have HG5 : Hid _ := grown_tr HG0.out hg5
                have HRW5 : Hid _ := fun (_ : Unit) => hrow5
                clear htin hrow5 hcx5 htG hfar hrd5 hg5 hvc
                go_wp2_with (at_builtin; refine wpList_append_lies _ rfl _ _ 25 rfl w.heap.size 27 i0 _ 3 40 Tryd.underlying25 hinf hz0 hz1 hz2 rfl (by decide) _ _ _ rfl hnew ⟨w5.heap.size, 0, none⟩ 1 1 [.int .i64 d.rule, .int .u8 (d.byte.toNat : Int), .slice va d.kids.length vc] rfl rfl ?ca1 ?ca2 (by decide) ?ca3 ?ca4 ?ca5 (w5.heap.size + 1) (by simp) ?_)
                case ca1 => exact cell_three_new _ _ _ _ _
                case ca2 => first | rfl | (intro u hu; simp at hu; rcases hu with rfl | rfl | rfl <;> rfl)
                case ca3 => unfold maxLen; omega
                case ca4 => omega
                case ca5 => have := HG5.out.size; simp; omega
                intro g1 cap1 w7 hown7 hgrow hat _
                have HFN : Hid (KI2 w R s G q0 m q2 (l ++ [d]) _ (.slice (some ⟨g1, 0, none⟩) (l.length + 1) cap1) f1 w7) := KI2.mk' HR5.out HG5.out (HRW5.out ()) HSN.out hown7 hgrow hat HLO.out hp2.2 (by have := HLL.out; have := HQ1.out; simp; omega) HF1.out (by have := HFU.out; have := HQ1.out; omega) HEQ2.out
                have HMS2 : Hid _ := HFN.out.rd.pos
                clear hown7 hgrow hat hnew
                go_wp2
                go_roundw
                case rel => exact ⟨q2, l ++ [d], _, f1, HFN.out⟩
                case measure => rw [HMS2.out, HMS.out]; have := HQS.out; have := HQ1.out; omega
end
section
open Go.RowKit Go.Shelf

theorem RdAt.grown {W W' : World} {R B : Nat} {s : ByteArray} {k : Nat} (h : RdAt W R s k) (hg : W.grownBy W' (some B)) (hne : R ≠ B) : RdAt W' R s k := by
  have e : W'.heap[R]? = W.heap[R]? := hg.block R h.lt (fun e => hne (by cases e; rfl))
  exact ⟨(World.cell?_of_block (a := ⟨R, 0, none⟩) e).trans h.text, (World.cell?_of_block (a := ⟨R, 1, none⟩) e).trans h.at', (World.frozen?_of_block (a := ⟨R, 1, none⟩) e).trans h.fz, Nat.lt_of_lt_of_le h.lt hg.size⟩
/-- The result's cells, as long as nobody else writes them. -/
theorem res_cells {w W : World} {R : Nat} (hR : R < w.heap.size) (hg : (w.alloc (.cells #[.int .i64 0, .int .u8 0, .slice none 0 0] 27)).grownBy W (some R)) : ∀ j v, (#[.int .i64 0, .int .u8 0, .slice none 0 0] : Array Value)[j]? = some v → W.cell? ⟨w.heap.size, j, none⟩ = some v ∧ W.frozen? ⟨w.heap.size, j, none⟩ = false := by
  intro j v hv
  have hlt : w.heap.size < (w.alloc (.cells #[.int .i64 0, .int .u8 0, .slice none 0 0] 27)).heap.size := by simp
  have hne : some (w.heap.size) ≠ some R := by simp; omega
  exact ⟨(hg.cell_far ⟨w.heap.size, j, none⟩ hlt hne).trans (cell_new j hv), (hg.frozen_far ⟨w.heap.size, j, none⟩ hlt hne).trans (World.frozen?_alloc_new _ _ _ _)⟩
theorem bits_or : ∀ a b : Fin 16, bits BinOp.or IntKind.u8 ((a.val : Int) * 16) (b.val : Int) = ((16 * a.val + b.val : Nat) : Int) := by decide +kernel
/-- A result that is stored, cell by cell. -/
theorem res_store {w w6 : World} {R : Nat} {s : ByteArray} {q : Nat} (hR : R < w.heap.size) (h : RdAt w6 R s q) (hg : w.grownBy w6 (some R)) (u0 u1 u2 : Value) : RdAt (((w6.setCell ⟨w.heap.size, 0, none⟩ u0).setCell ⟨w.heap.size, 1, none⟩ u1).setCell ⟨w.heap.size, 2, none⟩ u2) R s q ∧ w.grownBy (((w6.setCell ⟨w.heap.size, 0, none⟩ u0).setCell ⟨w.heap.size, 1, none⟩ u1).setCell ⟨w.heap.size, 2, none⟩ u2) (some R) ∧ w6.grownBy (((w6.setCell ⟨w.heap.size, 0, none⟩ u0).setCell ⟨w.heap.size, 1, none⟩ u1).setCell ⟨w.heap.size, 2, none⟩ u2) (some w.heap.size) := by
  have hne : R ≠ w.heap.size := by omega
  exact ⟨((h.grown (grown_set _ _ _ _) hne).grown (grown_set _ _ _ _) hne).grown (grown_set _ _ _ _) hne, grown_fresh (grown_fresh (grown_fresh hg (Nat.le_refl _) _) (Nat.le_refl _) _) (Nat.le_refl _) _, grown_tr (grown_tr (grown_set _ _ _ _) (grown_set _ _ _ _)) (grown_set _ _ _ _)⟩
theorem grown_from {w W : World} {R : Nat} {o : Obj} (hg : (w.alloc o).grownBy W (some R)) : w.grownBy W (some R) := grown_tr (grown_alloc o _) hg
set_option maxRecDepth 100000 in
set_option maxHeartbeats 8000000 in
theorem tree_step (R : Nat) (s : ByteArray) (hm : s.size ≤ 65536) (f : Nat) (HT : ∀ f', f' ≤ f → ∀ p m w, RdAt w R s p → p ≤ s.size → 2 * (s.size - p) < f' → m ≤ 202 → TCalls R s f' p m w) (p m : Nat) (w : World) (h : RdAt w R s p) (hp : p ≤ s.size) (hfu : 2 * (s.size - p) < f + 1) (hm2 : m ≤ 202) : TCalls R s (f + 1) p m w := by
  unfold TCalls
  have hR := h.lt
  obtain ⟨w1, hw1⟩ : ∃ w1, w.alloc (.cells #[.int .i64 0, .int .u8 0, .slice none 0 0] 27) = w1 := ⟨_, rfl⟩
  have hB1 : Below w.heap.size w w1 := by rw [← hw1]; exact (Below.refl _ _).alloc (Nat.le_refl _) _
  have s1 : w1.heap.size = w.heap.size + 1 := by rw [← hw1]; simp
  have h1 : RdAt w1 R s p := h.below hB1 hR
  have HRC : Hid (∀ W, w1.grownBy W (some R) → ∀ j v, (#[.int .i64 0, .int .u8 0, .slice none 0 0] : Array Value)[j]? = some v → W.cell? ⟨w.heap.size, j, none⟩ = some v ∧ W.frozen? ⟨w.heap.size, j, none⟩ = false) := fun W hg => by rw [← hw1] at hg; exact res_cells hR hg
  have HGF : Hid (∀ W, w1.grownBy W (some R) → w.grownBy W (some R)) := fun W hg => by rw [← hw1] at hg; exact grown_from hg
  have HM : Hid _ := hm
  have HH1 : Hid _ := h1
  have HHR : Hid _ := hR
  by_cases hps : s.size ≤ p
  · have hpe : p = s.size := by omega
    have HN : Hid _ := fun (_ : Unit) => next_end R s w1 (by rw [← hpe]; exact h1)
    have HP : Hid (rt s (f + 1) p m = .bad s.size 14) := by show _ = _; rw [rt, if_pos hps, hpe]
    clear h hB1 s1 h1 hp hfu HT hps hpe
    go_enter Tryd.func58, Tryd.ntmps58
    go_wp2_with (go_at_call 77; refine (HN.out ()).mono ?_)
    first | rintro e w' rfl hb | rintro e w' ⟨rfl, hb⟩
    have HG : Hid _ := HGF.out _ (grown_of_below hb (some R))
    clear hb
    simp only [FE]
    go_wp2
    refine ⟨rfl, ?_⟩
    show TPost R s (f + 1) w (rt s (f + 1) p m) _ _
    rw [HP.out]
    exact ⟨rfl, HG.out⟩
  have hlt : p < s.size := by omega
  have HN : Hid _ := fun (_ : Unit) => next_bt R s p w1 h1 hlt
  have hbl := bt_lt s p
  have HD : Hid (∀ W, _) := fun W => digit_any (bt s p) hbl W
  have HFL : Hid (∀ c W, RdAt W R s p → _) := fun c W h => fail_any R s p c W h
  by_cases hbad : bt s p ≠ 120 ∧ digq (bt s p) = false
  · have HP : Hid (rt s (f + 1) p m = .bad p 11) := by show _ = _; rw [rt, if_neg hps, if_pos hbad]
    rw [hbad.2] at HD
    have hx : ((bt s p : Int) != 120) = true := by have := hbad.1; simp; omega
    have hxn : ¬ (bt s p : Int) = 120 := by have := hbad.1; omega
    clear h hB1 s1 h1 hp hfu HT hps hbad
    go_enter Tryd.func58, Tryd.ntmps58
    go_wp2_with (go_at_call 77; refine (HN.out ()).mono ?_)
    first | rintro e w3 rfl hb3 | rintro e w3 ⟨rfl, hb3⟩
    have HR3 : Hid _ := HH1.out.below hb3 HH1.out.lt
    have HG3 : Hid _ := HGF.out _ (grown_of_below hb3 (some R))
    clear hb3
    go_wp2_with (first | (go_at_call 78; refine (HD.out _).mono ?_; rintro e w4 ⟨rfl, rfl⟩) | (go_at_call 59; refine (HFL.out 11 _ HR3.out).mono ?_))
    first | rintro e w5 rfl rfl | rintro e w5 ⟨rfl, rfl⟩
    simp only [FE]
    go_wp2
    refine ⟨rfl, ?_⟩
    show TPost R s (f + 1) w (rt s (f + 1) p m) _ _
    rw [HP.out]
    exact ⟨rfl, HG3.out⟩
  by_cases hdp : 200 < m
  · have HP : Hid (rt s (f + 1) p m = .bad p 2) := by show _ = _; rw [rt, if_neg hps, if_neg hbad, if_pos hdp]
    have hdI : (200 : Int) < (m : Int) := by omega
    by_cases hx : bt s p = 120
    · have hxe : ((bt s p : Int) != 120) = false := by simp [hx]
      have HHX : Hid _ := hx
      clear hx
      clear h hB1 s1 h1 hp hfu HT hps hbad hdp
      go_enter Tryd.func58, Tryd.ntmps58
      go_wp2_with (go_at_call 77; refine (HN.out ()).mono ?_)
      first | rintro e w3 rfl hb3 | rintro e w3 ⟨rfl, hb3⟩
      have HR3 : Hid _ := HH1.out.below hb3 HH1.out.lt
      have HG3 : Hid _ := HGF.out _ (grown_of_below hb3 (some R))
      clear hb3
      go_wp2_with (first | (go_at_call 78; refine (HD.out _).mono ?_; rintro e w4 ⟨rfl, rfl⟩) | (go_at_call 59; refine (HFL.out 2 _ HR3.out).mono ?_))
      first | rintro e w5 rfl rfl | rintro e w5 ⟨rfl, rfl⟩
      simp only [FE]
      go_wp2
      refine ⟨rfl, ?_⟩
      show TPost R s (f + 1) w (rt s (f + 1) p m) _ _
      rw [HP.out]
      exact ⟨rfl, HG3.out⟩
    · have hxe : ((bt s p : Int) != 120) = true := by simp; omega
      have hxn : ¬ (bt s p : Int) = 120 := by omega
      have hdg : digq (bt s p) = true := by
        cases hq : digq (bt s p) with
        | true => rfl
        | false => exact absurd ⟨hx, hq⟩ hbad
      rw [hdg] at HD
      clear hx hdg
      clear h hB1 s1 h1 hp hfu HT hps hbad hdp
      go_enter Tryd.func58, Tryd.ntmps58
      go_wp2_with (go_at_call 77; refine (HN.out ()).mono ?_)
      first | rintro e w3 rfl hb3 | rintro e w3 ⟨rfl, hb3⟩
      have HR3 : Hid _ := HH1.out.below hb3 HH1.out.lt
      have HG3 : Hid _ := HGF.out _ (grown_of_below hb3 (some R))
      clear hb3
      go_wp2_with (first | (go_at_call 78; refine (HD.out _).mono ?_; rintro e w4 ⟨rfl, rfl⟩) | (go_at_call 59; refine (HFL.out 2 _ HR3.out).mono ?_))
      first | rintro e w5 rfl rfl | rintro e w5 ⟨rfl, rfl⟩
      simp only [FE]
      go_wp2
      refine ⟨rfl, ?_⟩
      show TPost R s (f + 1) w (rt s (f + 1) p m) _ _
      rw [HP.out]
      exact ⟨rfl, HG3.out⟩
  have hdI : ¬ (200 : Int) < (m : Int) := by omega
  have hp65 : (p : Int) ≤ 65536 := by omega
  by_cases hx : bt s p = 120
  · have hxe : ((bt s p : Int) != 120) = false := by simp [hx]
    have hxq : ((bt s p : Int) == 120) = true := by simp [hx]
    have HP : Hid (rt s (f + 1) p m = rleaf s (p + 1)) := by show _ = _; rw [rt, if_neg hps, if_neg hbad, if_neg hdp, if_pos hx]
    have HHF : Hid (∀ q W, RdAt W R s q → q ≤ s.size → _) := fun q W h hq => half_any R s q W h hq HM.out
    have HLT : Hid _ := hlt
    have HHX : Hid _ := hx
    clear h hB1 s1 h1 hp hfu HT hps hbad hdp hx hlt
    go_enter Tryd.func58, Tryd.ntmps58
    go_wp2_with (go_at_call 77; refine (HN.out ()).mono ?_)
    first | rintro e w3 rfl hb3 | rintro e w3 ⟨rfl, hb3⟩
    have h3 := HH1.out.below hb3 HH1.out.lt
    have q1 := h3.at'
    have q2 := h3.fz
    have HR4 : Hid (RdAt (w3.setCell ⟨R, 1, none⟩ (.int .i64 ((p : Int) + 1))) R s (p + 1)) := h3.put (p + 1)
    have HG4 : Hid (w1.grownBy (w3.setCell ⟨R, 1, none⟩ (.int .i64 ((p : Int) + 1))) (some R)) := grown_tr (grown_of_below hb3 _) (grown_set _ _ _ _)
    have hh := HHF.out (p + 1) _ HR4.out (by have := HLT.out; omega)
    have HLP : Hid _ := HP.out
    cases hr1 : rhalf s (p + 1) with
    | bad qa ca =>
      rw [hr1] at hh
      have HPB : Hid (rt s (f + 1) p m = .bad qa ca) := by show _ = _; rw [HP.out]; unfold rleaf; rw [hr1]
      have HHH : Hid _ := fun (_ : Unit) => hh
      clear h3 hb3 hh hr1
      go_wp2_with (go_at_call 79; refine (HHH.out ()).mono ?_)
      first | rintro e w5 rfl hg5 | rintro e w5 ⟨rfl, hg5⟩
      have HG5 : Hid _ := HGF.out _ (grown_tr HG4.out hg5)
      clear hg5
      simp only [FE]
      go_wp2
      refine ⟨rfl, ?_⟩
      show TPost R s (f + 1) w (rt s (f + 1) p m) _ _
      rw [HPB.out]
      exact ⟨rfl, HG5.out⟩
    | ok a qa =>
      rw [hr1] at hh
      have hqa := rhalf_pos hr1
      have HHH : Hid _ := fun (_ : Unit) => hh
      have ha16 := hqa.2.2
      have HQA : Hid _ := hqa
      clear h3 hb3 hh hqa
      go_wp2_with (go_at_call 79; refine (HHH.out ()).mono ?_)
      first | rintro e w5 rfl hr5 hg5 | rintro e w5 ⟨rfl, hr5, hg5⟩
      have HR5 : Hid _ := hr5
      have HG5 : Hid _ := grown_tr HG4.out hg5
      have hh := HHF.out qa _ HR5.out HQA.out.2.1
      clear hr5 hg5 q1 q2
      cases hr2 : rhalf s qa with
      | bad qb cb =>
        rw [hr2] at hh
        have HPB : Hid (rt s (f + 1) p m = .bad qb cb) := by show _ = _; rw [HP.out]; unfold rleaf; rw [hr1]; simp only [hr2]
        have HHH2 : Hid _ := fun (_ : Unit) => hh
        clear hh hr1 hr2
        go_wp2_with (go_at_call 79; refine (HHH2.out ()).mono ?_)
        first | rintro e w6 rfl hg6 | rintro e w6 ⟨rfl, hg6⟩
        have HG6 : Hid _ := HGF.out _ (grown_tr HG5.out hg6)
        clear hg6
        simp only [FE]
        go_wp2
        refine ⟨rfl, ?_⟩
        show TPost R s (f + 1) w (rt s (f + 1) p m) _ _
        rw [HPB.out]
        exact ⟨rfl, HG6.out⟩
      | ok b qb =>
        rw [hr2] at hh
        have hb16 := (rhalf_pos hr2).2.2
        have HPB : Hid (rt s (f + 1) p m = .ok (.mk (-1) (UInt8.ofNat (16 * a + b)) []) qb) := by show _ = _; rw [HP.out]; unfold rleaf; rw [hr1]; simp only [hr2]
        have HHH2 : Hid _ := fun (_ : Unit) => hh
        clear hh hr1 hr2
        go_wp2_with (go_at_call 79; refine (HHH2.out ()).mono ?_)
        first | rintro e w6 rfl hr6 hg6 | rintro e w6 ⟨rfl, hr6, hg6⟩
        have hg16 := grown_tr HG5.out hg6
        have c0 := HRC.out _ hg16 0 _ rfl
        have c1 := HRC.out _ hg16 1 _ rfl
        have c2 := HRC.out _ hg16 2 _ rfl
        obtain ⟨x0, f0⟩ := c0
        obtain ⟨x1, f1⟩ := c1
        obtain ⟨x2, f2⟩ := c2
        have HR6 : Hid _ := hr6
        have HG6 : Hid _ := HGF.out _ hg16
        have hbo := bits_or ⟨a, ha16⟩ ⟨b, hb16⟩
        simp only at hbo
        have HTN : Hid ((UInt8.ofNat (16 * a + b)).toNat = 16 * a + b) := by show _ = _; rw [UInt8.toNat_ofNat']; omega
        clear hr6 hg6 hg16
        go_wp2
        have hst := res_store HHR.out HR6.out HG6.out (.int .i64 (-1)) (.int .u8 ((16 * a + b : Nat) : Int)) (.slice none 0 0)
        refine bodyPost_ret (v := .agg #[.int .i64 (-1), .int .u8 ((16 * a + b : Nat) : Int), .slice none 0 0]) (by simp [results, Tryd.results58, go_sem, x0, x1, x2]) rfl ?_
        show TPost R s (f + 1) w (rt s (f + 1) p m) _ _
        rw [HPB.out]
        refine ⟨⟨none, 0, ?_, Nat.le_refl _, ?_⟩, hst.1, hst.2.1⟩
        · show _ = Ending.returned (.agg #[.int .i64 (-1), .int .u8 ((UInt8.ofNat (16 * a + b)).toNat : Int), .slice none 0 0])
          rw [HTN.out]
        · exact ⟨by simp [Tr.kids], fun j d hj => by cases hj⟩
  · have hxe : ((bt s p : Int) != 120) = true := by simp; omega
    have hxn : ¬ (bt s p : Int) = 120 := by omega
    have hxq : ((bt s p : Int) == 120) = false := by simp; omega
    have hdg : digq (bt s p) = true := by
      cases hq : digq (bt s p) with
      | true => rfl
      | false => exact absurd ⟨hx, hq⟩ hbad
    rw [hdg] at HD
    have HP : Hid (rt s (f + 1) p m = match rnum s p 8 p 0 with | .bad q c => .bad q c | .ok n q => (match rkids s f q (m + 1) with | .bad q c => .bad q c | .ok l q => .ok (.mk n 0 l) q)) := by
      show _ = _
      rw [rt, if_neg hps, if_neg hbad, if_neg hdp, if_neg hx]
      cases rnum s p 8 p 0 with
      | bad q c => rfl
      | ok n q =>
        simp only [rkids]
        cases rwant s q 40 <;> rfl
    have HNM : Hid (∀ W, RdAt W R s p → _) := fun W h => number_any R s p W h hp HM.out
    have HKI : Hid (∀ q W, RdAt W R s q → q ≤ s.size → 2 * (s.size - q) ≤ f → _) := fun q W h hq hf => kids_step R s HM.out f HT q (m + 1) W h hq (by omega) hf
    have HLT : Hid (p < s.size ∧ 2 * (s.size - p) < f + 1) := ⟨hlt, hfu⟩
    have hm200 : m ≤ 200 := by omega
    clear h hB1 s1 h1 hp hfu HT hps hbad hdp hx hlt hdg
    go_enter Tryd.func58, Tryd.ntmps58
    go_wp2_with (go_at_call 77; refine (HN.out ()).mono ?_)
    first | rintro e w3 rfl hb3 | rintro e w3 ⟨rfl, hb3⟩
    have HR3 : Hid _ := HH1.out.below hb3 HH1.out.lt
    have HG3 : Hid (w1.grownBy w3 (some R)) := grown_of_below hb3 _
    clear hb3
    have hn := HNM.out w3 HR3.out
    cases hr1 : rnum s p 8 p 0 with
    | bad qa ca =>
      rw [hr1] at hn
      have HPB : Hid (rt s (f + 1) p m = .bad qa ca) := by show _ = _; rw [HP.out, hr1]
      have HNN : Hid _ := fun (_ : Unit) => hn
      clear hn hr1
      go_wp2_with (first | (go_at_call 78; refine (HD.out _).mono ?_; rintro e w4 ⟨rfl, rfl⟩) | (go_at_call 80; refine (HNN.out ()).mono ?_))
      first | rintro e w5 rfl hg5 | rintro e w5 ⟨rfl, hg5⟩
      have HG5 : Hid _ := HGF.out _ (grown_tr HG3.out hg5)
      clear hg5
      simp only [FE]
      go_wp2
      refine ⟨rfl, ?_⟩
      show TPost R s (f + 1) w (rt s (f + 1) p m) _ _
      rw [HPB.out]
      exact ⟨rfl, HG5.out⟩
    | ok n qa =>
      rw [hr1] at hn
      have hqa := rnum_pos hr1
      have HQA : Hid _ := hqa
      have HNN : Hid _ := fun (_ : Unit) => hn
      clear hn hqa
      go_wp2_with (first | (go_at_call 78; refine (HD.out _).mono ?_; rintro e w4 ⟨rfl, rfl⟩) | (go_at_call 80; refine (HNN.out ()).mono ?_))
      first | rintro e w5 rfl hr5 hg5 | rintro e w5 ⟨rfl, hr5, hg5⟩
      have HR5 : Hid _ := hr5
      have HG5 : Hid (w1.grownBy w5 (some R)) := grown_tr HG3.out hg5
      clear hr5 hg5
      have hk := HKI.out qa w5 HR5.out (by have := HQA.out; omega) (by have := HQA.out; have := HLT.out; omega)
      push_cast at hk
      cases hr2 : rkids s f qa (m + 1) with
      | bad qb cb =>
        rw [hr2] at hk
        have HPB : Hid (rt s (f + 1) p m = .bad qb cb) := by show _ = _; rw [HP.out, hr1]; simp only [hr2]
        have HKK : Hid _ := fun (_ : Unit) => hk
        clear hk hr1 hr2
        go_wp2_with (go_at_call 81; refine (HKK.out ()).mono ?_)
        first | rintro e w6 rfl hg6 | rintro e w6 ⟨rfl, hg6⟩
        have HG6 : Hid _ := HGF.out _ (grown_tr HG5.out hg6)
        clear hg6
        simp only [FE]
        go_wp2
        refine ⟨rfl, ?_⟩
        show TPost R s (f + 1) w (rt s (f + 1) p m) _ _
        rw [HPB.out]
        exact ⟨rfl, HG6.out⟩
      | ok l qb =>
        rw [hr2] at hk
        have HPB : Hid (rt s (f + 1) p m = .ok (.mk n 0 l) qb) := by show _ = _; rw [HP.out, hr1]; simp only [hr2]
        have HKK : Hid _ := fun (_ : Unit) => hk
        clear hk hr1 hr2
        go_wp2_with (go_at_call 81; refine (HKK.out ()).mono ?_)
        first | rintro e w6 v xs rfl hrow hcx hll hr6 hg6 | rintro e w6 ⟨⟨v, xs, rfl, hrow, hcx, hll⟩, hr6, hg6⟩
        have hg16 := grown_tr HG5.out hg6
        obtain ⟨x0, f0⟩ := HRC.out _ hg16 0 _ rfl
        obtain ⟨x1, f1⟩ := HRC.out _ hg16 1 _ rfl
        obtain ⟨x2, f2⟩ := HRC.out _ hg16 2 _ rfl
        obtain ⟨la, lc, rfl, hlc, htin⟩ := hcx.tin hrow (by omega)
        have HTI : Hid _ := fun (_ : Unit) => htin
        have HLC : Hid _ := hlc
        have HR6 : Hid _ := hr6
        have HG6 : Hid _ := HGF.out _ hg16
        have HS5 : Hid (w.heap.size < w5.heap.size) := by have := HG5.out.size; have : w1.heap.size = w.heap.size + 1 := (by rw [← hw1]; simp); show _ < _; omega
        clear hr6 hg6 hg16 hrow hcx htin hlc
        go_wp2
        have hst := res_store HHR.out HR6.out HG6.out (.int .i64 (n : Int)) (.int .u8 0) (.slice la l.length lc)
        refine bodyPost_ret (v := .agg #[.int .i64 (n : Int), .int .u8 0, .slice la l.length lc]) (by simp [results, Tryd.results58, go_sem, x0, x1, x2]) rfl ?_
        show TPost R s (f + 1) w (rt s (f + 1) p m) _ _
        rw [HPB.out]
        refine ⟨⟨la, lc, rfl, HLC.out, ?_⟩, hst.1, hst.2.1⟩
        refine ((HTI.out ()).keep (fun b hb q => ?_)).wide (fun b hb => ⟨by have := HS5.out; omega, Nat.lt_of_lt_of_le hb.2 hst.2.2.size⟩)
        exact hst.2.2.cell_far ⟨b, q, none⟩ hb.2 (fun e => by simp at e; have := HS5.out; have := hb.1; omega)
/-- Reading a tree comes to what it should. -/
theorem tree_any (R : Nat) (s : ByteArray) (hm : s.size ≤ 65536) : ∀ f p m w, RdAt w R s p → p ≤ s.size → 2 * (s.size - p) < f → m ≤ 202 → TCalls R s f p m w := by
  intro f
  induction f using Nat.strongRecOn with
  | ind f ih =>
    intro p m w h hp hf hm2
    obtain ⟨f', rfl⟩ : ∃ f', f = f' + 1 := ⟨f - 1, by omega⟩
    exact tree_step R s hm f' (fun g hg p m w a b c d => ih g (by omega) p m w a b c d) p m w h hp hf hm2
end
section
open Go.RowKit Go.Shelf

set_option maxRecDepth 100000 in
set_option maxHeartbeats 4000000 in
theorem caught_none (tb fb : Nat) (w : World) : CallsD Tryd.prog 57 #[.pointer (some ⟨tb, 0, none⟩), .pointer (some ⟨fb, 0, none⟩)] .returning w fun e u' w' => e = .returned (.tuple #[]) ∧ u' = .returning ∧ w' = w := by
  refine callsD_of_wpS Tryd.func57 rfl fun c₀ cs hu => ?_
  apply wpS_seq
  apply wpS_region
  simp [wpOpsS, go_sem, recoverD, hu, Tryd.ntmps57, Exit.thenS]
  refine wpS_of_wp ?_
  simp only [Array.replicate_succ, Array.replicate_zero, List.push_toArray, List.append_toArray, List.nil_append, List.cons_append, List.setIfInBounds_toArray, List.set_cons_zero, List.set_cons_succ]
  go_wp2
  cases c₀
  simp_all [bodyPostS, results, Tryd.results57]
theorem assert_fault (v : Value) (w : World) : (Instr.typeAssert (.iface 52 v) 20 52 true).run Tryd.prog w = .ok (.tuple #[v, .bool true]) w := by kernel_rfl
theorem set_step {W A : World} {b o : Nat} {u : Value} (h : W.setCell ⟨b, o, none⟩ u = A) : (∀ k, k ≠ b → A.heap[k]? = W.heap[k]?) ∧ (∀ q, q ≠ o → A.cell? ⟨b, q, none⟩ = W.cell? ⟨b, q, none⟩) ∧ (∀ v, W.cell? ⟨b, o, none⟩ = some v → A.cell? ⟨b, o, none⟩ = some u) ∧ A.os = W.os ∧ A.tape = W.tape ∧ A.output = W.output ∧ A.heap.size = W.heap.size := by
  subst h
  refine ⟨fun k hk => Below.heap_setCell W ⟨b, o, none⟩ u k hk, fun q hq => World.cell?_setCell_other _ _ _ _ (fun e => by cases e; exact hq rfl), fun v hv => World.cell?_setCell_same' _ _ _ (by rw [hv]; rfl), rfl, rfl, rfl, by simp [World.setCell]⟩
theorem caught_world (tb fb : Nat) (p c : Nat) (v0 v1 v2 u0 u1 : Value) (w W : World) (hne : tb ≠ fb) (HB : Below w.heap.size w W) (t0 : W.cell? ⟨tb, 0, none⟩ = some v0) (t1 : W.cell? ⟨tb, 1, none⟩ = some v1) (t2 : W.cell? ⟨tb, 2, none⟩ = some v2) (g0 : W.cell? ⟨fb, 0, none⟩ = some u0) (g1 : W.cell? ⟨fb, 1, none⟩ = some u1) (X : World)
    (hX : X = (((((W.setCell ⟨tb, 0, none⟩ (.int .i64 0)).setCell ⟨tb, 1, none⟩ (.int .u8 0)).setCell ⟨tb, 2, none⟩ (.slice none 0 0)).setCell ⟨fb, 0, none⟩ (.int .i64 (p : Int))).setCell ⟨fb, 1, none⟩ (.int .i64 (c : Int))).drew) :
    X.cell? ⟨tb, 0, none⟩ = some (.int .i64 0) ∧ X.cell? ⟨tb, 1, none⟩ = some (.int .u8 0) ∧ X.cell? ⟨tb, 2, none⟩ = some (.slice none 0 0) ∧ X.cell? ⟨fb, 0, none⟩ = some (.int .i64 (p : Int)) ∧ X.cell? ⟨fb, 1, none⟩ = some (.int .i64 (c : Int)) ∧
      X.os = w.os ∧ X.tape = w.tape ∧ X.output = w.output ∧ w.heap.size ≤ X.heap.size ∧ ∀ b, b < w.heap.size → b ≠ tb → b ≠ fb → X.heap[b]? = w.heap[b]? := by
  obtain ⟨A1, e1⟩ : ∃ A, W.setCell ⟨tb, 0, none⟩ (.int .i64 0) = A := ⟨_, rfl⟩
  obtain ⟨A2, e2⟩ : ∃ A, A1.setCell ⟨tb, 1, none⟩ (.int .u8 0) = A := ⟨_, rfl⟩
  obtain ⟨A3, e3⟩ : ∃ A, A2.setCell ⟨tb, 2, none⟩ (.slice none 0 0) = A := ⟨_, rfl⟩
  obtain ⟨A4, e4⟩ : ∃ A, A3.setCell ⟨fb, 0, none⟩ (.int .i64 (p : Int)) = A := ⟨_, rfl⟩
  obtain ⟨A5, e5⟩ : ∃ A, A4.setCell ⟨fb, 1, none⟩ (.int .i64 (c : Int)) = A := ⟨_, rfl⟩
  rw [e1, e2, e3, e4, e5] at hX
  obtain ⟨a1, b1, c1, o1, p1, q1, r1⟩ := set_step e1
  obtain ⟨a2, b2, c2, o2, p2, q2, r2⟩ := set_step e2
  obtain ⟨a3, b3, c3, o3, p3, q3, r3⟩ := set_step e3
  obtain ⟨a4, b4, c4, o4, p4, q4, r4⟩ := set_step e4
  obtain ⟨a5, b5, c5, o5, p5, q5, r5⟩ := set_step e5
  have cl : ∀ {X Y : World} {b : Nat} (q : Nat), Y.heap[b]? = X.heap[b]? → Y.cell? ⟨b, q, none⟩ = X.cell? ⟨b, q, none⟩ := fun q h => World.cell?_of_block (a := ⟨_, q, none⟩) h
  have hXc : ∀ q, X.cell? q = A5.cell? q := fun q => by rw [hX]; rfl
  clear e1 e2 e3 e4 e5
  refine ⟨?_, ?_, ?_, ?_, ?_, by rw [hX]; exact (o5.trans (o4.trans (o3.trans (o2.trans o1)))).trans HB.os, by rw [hX]; exact (p5.trans (p4.trans (p3.trans (p2.trans p1)))).trans HB.tape, by rw [hX]; exact (q5.trans (q4.trans (q3.trans (q2.trans q1)))).trans HB.output, ?_, fun b hb h1 h2 => ?_⟩
  · exact ((hXc _).trans ((cl 0 (a5 tb hne)).trans ((cl 0 (a4 tb hne)).trans ((b3 0 (by omega)).trans (b2 0 (by omega)))))).trans (c1 _ t0)
  · exact ((hXc _).trans ((cl 1 (a5 tb hne)).trans ((cl 1 (a4 tb hne)).trans (b3 1 (by omega))))).trans (c2 _ ((b1 1 (by omega)).trans t1))
  · exact ((hXc _).trans ((cl 2 (a5 tb hne)).trans (cl 2 (a4 tb hne)))).trans (c3 _ ((b2 2 (by omega)).trans ((b1 2 (by omega)).trans t2)))
  · have hf : fb ≠ tb := fun e => hne e.symm
    exact ((hXc _).trans (b5 0 (by omega))).trans (c4 _ ((cl 0 (a3 fb hf)).trans ((cl 0 (a2 fb hf)).trans ((cl 0 (a1 fb hf)).trans g0))))
  · have hf : fb ≠ tb := fun e => hne e.symm
    exact (hXc _).trans (c5 _ ((b4 1 (by omega)).trans ((cl 1 (a3 fb hf)).trans ((cl 1 (a2 fb hf)).trans ((cl 1 (a1 fb hf)).trans g1)))))
  · have := HB.size
    rw [hX]; show _ ≤ A5.heap.size; omega
  · rw [hX]
    exact ((a5 b h2).trans ((a4 b h2).trans ((a3 b h1).trans ((a2 b h1).trans (a1 b h1))))).trans (HB.block b hb)
set_option maxRecDepth 100000 in
set_option maxHeartbeats 4000000 in
theorem caught_fault (tb fb : Nat) (p c : Nat) (v0 v1 v2 u0 u1 : Value) (w : World) (hne : tb ≠ fb) (htl : tb < w.heap.size) (hfl : fb < w.heap.size)
    (t0 : w.cell? ⟨tb, 0, none⟩ = some v0) (t1 : w.cell? ⟨tb, 1, none⟩ = some v1) (t2 : w.cell? ⟨tb, 2, none⟩ = some v2) (g0 : w.cell? ⟨fb, 0, none⟩ = some u0) (g1 : w.cell? ⟨fb, 1, none⟩ = some u1)
    (z0 : w.frozen? ⟨tb, 0, none⟩ = false) (z1 : w.frozen? ⟨tb, 1, none⟩ = false) (z2 : w.frozen? ⟨tb, 2, none⟩ = false) (y0 : w.frozen? ⟨fb, 0, none⟩ = false) (y1 : w.frozen? ⟨fb, 1, none⟩ = false) :
    CallsD Tryd.prog 57 #[.pointer (some ⟨tb, 0, none⟩), .pointer (some ⟨fb, 0, none⟩)] (.panicking [{ v := .iface 52 (.agg #[.int .i64 (p : Int), .int .i64 (c : Int)]), recovered := false }]) w fun e u' w' => e = .returned (.tuple #[]) ∧ u' = .panicking [{ v := .iface 52 (.agg #[.int .i64 (p : Int), .int .i64 (c : Int)]), recovered := true }] ∧
      w'.cell? ⟨tb, 0, none⟩ = some (.int .i64 0) ∧ w'.cell? ⟨tb, 1, none⟩ = some (.int .u8 0) ∧ w'.cell? ⟨tb, 2, none⟩ = some (.slice none 0 0) ∧ w'.cell? ⟨fb, 0, none⟩ = some (.int .i64 (p : Int)) ∧ w'.cell? ⟨fb, 1, none⟩ = some (.int .i64 (c : Int)) ∧
      w'.os = w.os ∧ w'.tape = w.tape ∧ w'.output = w.output ∧ w.heap.size ≤ w'.heap.size ∧ ∀ b, b < w.heap.size → b ≠ tb → b ≠ fb → w'.heap[b]? = w.heap[b]? := by
  have hta := assert_fault
  refine callsD_of_wpS Tryd.func57 rfl fun c₀ cs hu => ?_
  apply wpS_seq
  apply wpS_region
  simp [wpOpsS, go_sem, recoverD, hu, Tryd.ntmps57, Exit.thenS]
  refine wpS_of_wp ?_
  simp only [Array.replicate_succ, Array.replicate_zero, List.push_toArray, List.append_toArray, List.nil_append, List.cons_append, List.setIfInBounds_toArray, List.set_cons_zero, List.set_cons_succ]
  go_wp2
  obtain ⟨W, hW⟩ : ∃ W, w.alloc (.cells #[.int .i64 (p : Int), .int .i64 (c : Int)] 52) = W := ⟨_, rfl⟩
  have hB : Below w.heap.size w W := by rw [← hW]; exact (Below.refl _ _).alloc (Nat.le_refl _) _
  have n0 : W.cell? ⟨w.heap.size, 0, none⟩ = some (.int .i64 (p : Int)) := by rw [← hW]; exact cell_new 0 rfl
  have n1 : W.cell? ⟨w.heap.size, 1, none⟩ = some (.int .i64 (c : Int)) := by rw [← hW]; exact cell_new 1 rfl
  rw [hW]
  replace t0 := (hB.cell (p := ⟨tb, 0, none⟩) htl).trans t0
  replace t1 := (hB.cell (p := ⟨tb, 1, none⟩) htl).trans t1
  replace t2 := (hB.cell (p := ⟨tb, 2, none⟩) htl).trans t2
  replace g0 := (hB.cell (p := ⟨fb, 0, none⟩) hfl).trans g0
  replace g1 := (hB.cell (p := ⟨fb, 1, none⟩) hfl).trans g1
  replace z0 := (hB.frozen (p := ⟨tb, 0, none⟩) htl).trans z0
  replace z1 := (hB.frozen (p := ⟨tb, 1, none⟩) htl).trans z1
  replace z2 := (hB.frozen (p := ⟨tb, 2, none⟩) htl).trans z2
  replace y0 := (hB.frozen (p := ⟨fb, 0, none⟩) hfl).trans y0
  replace y1 := (hB.frozen (p := ⟨fb, 1, none⟩) hfl).trans y1
  have HB : Hid _ := hB
  have htn : tb ≠ w.heap.size := by omega
  have hfn : fb ≠ w.heap.size := by omega
  clear hW hB
  have HF : Hid _ := fun X hX => caught_world tb fb p c v0 v1 v2 u0 u1 w W hne HB.out t0 t1 t2 g0 g1 X hX
  go_region
  go_wp2
  exact ⟨rfl, _, rfl, .tuple #[], by simp [results, Tryd.results57, go_sem], rfl, rfl, HF.out _ rfl⟩
end
section
open Go.RowKit Go.Shelf

/-- What reading a whole text comes to. -/
def PPost (F : Nat) (w : World) : PR Tr → Ending → World → Prop
  | .ok d _, e, w' => (∃ va vc, e = .returned (.tuple #[.agg #[.int .i64 d.rule, .int .u8 (d.byte.toNat : Int), .slice va d.kids.length vc], .agg #[.int .i64 0, .int .i64 0]]) ∧ d.kids.length ≤ vc ∧ TIn w' (fun b => w.heap.size ≤ b ∧ b < w'.heap.size) F va d.kids) ∧ Below w.heap.size w w'
  | .bad q c, e, w' => e = .returned (.tuple #[.agg #[.int .i64 0, .int .u8 0, .slice none 0 0], .agg #[.int .i64 (q : Int), .int .i64 (c : Int)]]) ∧ Below w.heap.size w w'
theorem told_world (tb : Nat) (r : Int) (u : UInt8) (sl : Value) (W X : World) (c0 : W.cell? ⟨tb, 0, none⟩ = some (.int .i64 r)) (c1 : W.cell? ⟨tb, 1, none⟩ = some (.int .u8 (u.toNat : Int))) (c2 : W.cell? ⟨tb, 2, none⟩ = some sl) {m0 m1 : Value} (g0 : W.cell? ⟨tb + 1, 0, none⟩ = some m0) (g1 : W.cell? ⟨tb + 1, 1, none⟩ = some m1)
    (hX : X = ((((W.setCell ⟨tb, 0, none⟩ (.int .i64 r)).setCell ⟨tb, 1, none⟩ (.int .u8 (u.toNat : Int))).setCell ⟨tb, 2, none⟩ sl).setCell ⟨tb + 1, 0, none⟩ (.int .i64 0)).setCell ⟨tb + 1, 1, none⟩ (.int .i64 0)) :
    (X.cell? ⟨tb, 0, none⟩ = some (.int .i64 r) ∧ X.cell? ⟨tb, 1, none⟩ = some (.int .u8 (u.toNat : Int)) ∧ X.cell? ⟨tb, 2, none⟩ = some sl ∧ X.cell? ⟨tb + 1, 0, none⟩ = some (.int .i64 0) ∧ X.cell? ⟨tb + 1, 1, none⟩ = some (.int .i64 0)) ∧ X.os = W.os ∧ X.tape = W.tape ∧ X.output = W.output ∧ X.heap.size = W.heap.size ∧ ∀ b, b ≠ tb → b ≠ tb + 1 → X.heap[b]? = W.heap[b]? := by
  obtain ⟨A1, e1⟩ : ∃ A, W.setCell ⟨tb, 0, none⟩ (.int .i64 r) = A := ⟨_, rfl⟩
  obtain ⟨A2, e2⟩ : ∃ A, A1.setCell ⟨tb, 1, none⟩ (.int .u8 (u.toNat : Int)) = A := ⟨_, rfl⟩
  obtain ⟨A3, e3⟩ : ∃ A, A2.setCell ⟨tb, 2, none⟩ sl = A := ⟨_, rfl⟩
  obtain ⟨A4, e4⟩ : ∃ A, A3.setCell ⟨tb + 1, 0, none⟩ (.int .i64 0) = A := ⟨_, rfl⟩
  obtain ⟨A5, e5⟩ : ∃ A, A4.setCell ⟨tb + 1, 1, none⟩ (.int .i64 0) = A := ⟨_, rfl⟩
  rw [e1, e2, e3, e4, e5] at hX
  subst hX
  obtain ⟨a1, b1, d1, o1, p1, q1, r1⟩ := set_step e1
  obtain ⟨a2, b2, d2, o2, p2, q2, r2⟩ := set_step e2
  obtain ⟨a3, b3, d3, o3, p3, q3, r3⟩ := set_step e3
  obtain ⟨a4, b4, d4, o4, p4, q4, r4⟩ := set_step e4
  obtain ⟨a5, b5, d5, o5, p5, q5, r5⟩ := set_step e5
  have cl : ∀ {X Y : World} {b : Nat} (q : Nat), Y.heap[b]? = X.heap[b]? → Y.cell? ⟨b, q, none⟩ = X.cell? ⟨b, q, none⟩ := fun q h => World.cell?_of_block (a := ⟨_, q, none⟩) h
  have hne : tb ≠ tb + 1 := by omega
  have hf : tb + 1 ≠ tb := by omega
  clear e1 e2 e3 e4 e5
  refine ⟨⟨?_, ?_, ?_, ?_, ?_⟩, o5.trans (o4.trans (o3.trans (o2.trans o1))), p5.trans (p4.trans (p3.trans (p2.trans p1))), q5.trans (q4.trans (q3.trans (q2.trans q1))), by omega, fun b h1 h2 => (a5 b h2).trans ((a4 b h2).trans ((a3 b h1).trans ((a2 b h1).trans (a1 b h1))))⟩
  · exact ((cl 0 (a5 tb hne)).trans ((cl 0 (a4 tb hne)).trans ((b3 0 (by omega)).trans (b2 0 (by omega))))).trans (d1 _ c0)
  · exact ((cl 1 (a5 tb hne)).trans ((cl 1 (a4 tb hne)).trans (b3 1 (by omega)))).trans (d2 _ ((b1 1 (by omega)).trans c1))
  · exact ((cl 2 (a5 tb hne)).trans (cl 2 (a4 tb hne))).trans (d3 _ ((b2 2 (by omega)).trans ((b1 2 (by omega)).trans c2)))
  · exact (b5 0 (by omega)).trans (d4 _ ((cl 0 (a3 _ hf)).trans ((cl 0 (a2 _ hf)).trans ((cl 0 (a1 _ hf)).trans g0))))
  · exact d5 _ ((b4 1 (by omega)).trans ((cl 1 (a3 _ hf)).trans ((cl 1 (a2 _ hf)).trans ((cl 1 (a1 _ hf)).trans g1))))
set_option maxRecDepth 100000 in
set_option maxHeartbeats 8000000 in
theorem parse_any (s : ByteArray) (w : World) (hs : s.size ≤ maxLen) : Calls Tryd.prog 35 #[.string s] w fun e w' => PPost (2 * s.size + 2) w (rpar s) e w' := by
  unfold maxLen at hs
  have hmf : ∀ (fn : Fn) (first cap : Array Value) (w : World), (Instr.makeFunc fn first cap).run Tryd.prog w = .ok (.func fn first cap) w := fun _ _ _ _ => rfl
  by_cases hl : 65536 < s.size
  · have HP : Hid (rpar s = .bad 0 2) := by show _ = _; unfold rpar; rw [if_pos hl]
    have hlI : (65536 : Int) < (s.size : Int) := by omega
    go_enter_defers Tryd.func35, Tryd.ntmps35
    go_wp2
    refine ⟨.tuple #[.agg #[.int .i64 0, .int .u8 0, .slice none 0 0], .agg #[.int .i64 0, .int .i64 2]], by simp [results, Tryd.results35, go_sem], ?_⟩
    show PPost (2 * s.size + 2) w (rpar s) _ _
    rw [HP.out]
    exact ⟨rfl, ((Below.refl _ _).alloc (Nat.le_refl _) _).alloc (by simp) _⟩
  · have hlI : ¬ (65536 : Int) < (s.size : Int) := by omega
    have hs6 : s.size ≤ 65536 := by omega
    obtain ⟨w3, hw3⟩ : ∃ w3, ((w.alloc (.cells #[.int .i64 0, .int .u8 0, .slice none 0 0] 27)).alloc (.cells #[.int .i64 0, .int .i64 0] 52)).alloc (.cells #[.string s, .int .i64 0] 91) = w3 := ⟨_, rfl⟩
    have s3 : w3.heap.size = w.heap.size + 3 := by rw [← hw3]; simp
    have hB3 : Below w.heap.size w w3 := by rw [← hw3]; exact ((((Below.refl _ _).alloc (Nat.le_refl _) _).alloc (by simp) _).alloc (by simp; omega) _)
    have hrd : RdAt w3 (w.heap.size + 2) s 0 := by
      have e : ((w.alloc (.cells #[.int .i64 0, .int .u8 0, .slice none 0 0] 27)).alloc (.cells #[.int .i64 0, .int .i64 0] 52)).heap.size = w.heap.size + 2 := by simp
      refine ⟨?_, ?_, ?_, by omega⟩
      · rw [← hw3, ← e]; exact cell_new 0 rfl
      · rw [← hw3, ← e]; exact cell_new 1 rfl
      · rw [← hw3, ← e]; exact World.frozen?_alloc_new _ _ _ _
    have hc : ∀ W, w3.grownBy W (some (w.heap.size + 2)) → W.cell? ⟨w.heap.size, 0, none⟩ = some (.int .i64 0) ∧ W.cell? ⟨w.heap.size, 1, none⟩ = some (.int .u8 0) ∧ W.cell? ⟨w.heap.size, 2, none⟩ = some (.slice none 0 0) ∧ W.cell? ⟨w.heap.size + 1, 0, none⟩ = some (.int .i64 0) ∧ W.cell? ⟨w.heap.size + 1, 1, none⟩ = some (.int .i64 0) ∧ W.frozen? ⟨w.heap.size, 0, none⟩ = false ∧ W.frozen? ⟨w.heap.size, 1, none⟩ = false ∧ W.frozen? ⟨w.heap.size, 2, none⟩ = false ∧ W.frozen? ⟨w.heap.size + 1, 0, none⟩ = false ∧ W.frozen? ⟨w.heap.size + 1, 1, none⟩ = false := by
      intro W hg
      have e0 : w3.heap[w.heap.size]? = some (.cells #[.int .i64 0, .int .u8 0, .slice none 0 0] 27) := by
        rw [← hw3]
        rw [Below.heap_alloc _ _ _ (by simp; omega), Below.heap_alloc _ _ _ (by simp)]
        exact World.alloc_heap_new _ _
      have e1 : w3.heap[w.heap.size + 1]? = some (.cells #[.int .i64 0, .int .i64 0] 52) := by
        rw [← hw3]
        rw [Below.heap_alloc _ _ _ (by simp)]
        have := World.alloc_heap_new (w.alloc (.cells #[.int .i64 0, .int .u8 0, .slice none 0 0] 27)) (.cells #[.int .i64 0, .int .i64 0] 52)
        simpa using this
      have k0 := (hg.block w.heap.size (by omega) (by simp)).trans e0
      have k1 := (hg.block (w.heap.size + 1) (by omega) (by simp)).trans e1
      refine ⟨?_, ?_, ?_, ?_, ?_, ?_, ?_, ?_, ?_, ?_⟩ <;> simp [World.cell?, World.frozen?, k0, k1]
    have ht : Calls Tryd.prog 58 #[.pointer (some ⟨w.heap.size + 2, 0, none⟩), .int .i64 1] w3 fun e w' => TPost (w.heap.size + 2) s (2 * s.size + 2) w3 (rt s (2 * s.size + 2) 0 1) e w' := tree_any (w.heap.size + 2) s hs6 (2 * s.size + 2) 0 1 w3 hrd (by omega) (by omega) (by omega)
    have HRP : Hid (rpar s = match rt s (2 * s.size + 2) 0 1 with | .bad q c => .bad q c | .ok d q => if q < s.size then .bad q 15 else .ok d q) := by show _ = _; unfold rpar; rw [if_neg hl]; rfl
    have HC : Hid _ := hc
    have HB3 : Hid _ := hB3
    have HS3 : Hid _ := s3
    cases hr : rt s (2 * s.size + 2) 0 1 with
    | bad q c =>
      rw [hr] at ht
      have HP : Hid (rpar s = .bad q c) := by show _ = _; rw [HRP.out, hr]
      have HT : Hid _ := fun (_ : Unit) => ht
      clear ht hr hc hB3 s3 hrd hl
      go_enter_defers Tryd.func35, Tryd.ntmps35
      go_wp2_with (go_at_call 58; refine (HT.out ()).mono ?_)
      first | rintro e w5 rfl hg5 | rintro e w5 ⟨rfl, hg5⟩
      obtain ⟨t0, t1, t2, g0, g1, z0, z1, z2, y0, y1⟩ := HC.out w5 hg5
      have hs5 := hg5.size
      have HG5 : Hid _ := hg5
      clear hg5
      simp only [FE]
      go_wp2
      refine leaves_cons (f := 57) (args := #[.pointer (some ⟨w.heap.size, 0, none⟩), .pointer (some ⟨w.heap.size + 1, 0, none⟩)]) (by simp) (by simp [go_sem]) ?_
      refine (caught_fault w.heap.size (w.heap.size + 1) q c _ _ _ _ _ w5 (by omega) (by have := HS3.out; omega) (by have := HS3.out; omega) t0 t1 t2 g0 g1 z0 z1 z2 y0 y1).mono ?_
      rintro e u' w6 ⟨rfl, rfl, r0, r1, r2, r3, r4, ho, htp, hou, hsz, hbl⟩
      refine ⟨.tuple #[.agg #[.int .i64 0, .int .u8 0, .slice none 0 0], .agg #[.int .i64 (q : Int), .int .i64 (c : Int)]], by simp [results, Tryd.results35, go_sem, r0, r1, r2, r3, r4], ?_⟩
      show PPost (2 * s.size + 2) w (rpar s) _ _
      rw [HP.out]
      refine ⟨rfl, ⟨(ho.trans HG5.out.os).trans HB3.out.os, (htp.trans HG5.out.tape).trans HB3.out.tape, (hou.trans HG5.out.output).trans HB3.out.output, by have := HB3.out.size; omega, fun b hb => ?_⟩⟩
      have h3 := HS3.out
      exact ((hbl b (by omega) (by omega) (by omega)).trans (HG5.out.block b (by omega) (by simp; omega))).trans (HB3.out.block b hb)
    | ok d q =>
      rw [hr] at ht
      have hpq := (rt_rk_pos s (2 * s.size + 2)).1 _ _ _ _ hr
      have hrp : rpar s = if q < s.size then .bad q 15 else .ok d q := by rw [HRP.out, hr]
      have HT : Hid _ := fun (_ : Unit) => ht
      have HQ : Hid _ := hpq
      have HHX : Hid (w.heap.size + 2 < w3.heap.size) := by show _ < _; omega
      by_cases hq : q < s.size
      · have hqI : (q : Int) < (s.size : Int) := by omega
        have HP : Hid (rpar s = .bad q 15) := by show _ = _; rw [hrp, if_pos hq]
        have HFL : Hid (∀ W, RdAt W (w.heap.size + 2) s q → _) := fun W h => fail_any (w.heap.size + 2) s q 15 W h
        clear ht hr hc hB3 s3 hrd hl hpq hrp hq
        go_enter_defers Tryd.func35, Tryd.ntmps35
        go_wp2_with (go_at_call 58; refine (HT.out ()).mono ?_)
        first | rintro e w5 va vc rfl hvc htin hr5 hg5 | rintro e w5 ⟨⟨va, vc, rfl, hvc, htin⟩, hr5, hg5⟩
        obtain ⟨t0, t1, t2, g0, g1, z0, z1, z2, y0, y1⟩ := HC.out w5 hg5
        have hs5 := hg5.size
        have hne0 : w.heap.size + 2 ≠ w.heap.size := by omega
        obtain ⟨A1, e1⟩ : ∃ A, w5.setCell ⟨w.heap.size, 0, none⟩ (.int .i64 d.rule) = A := ⟨_, rfl⟩
        obtain ⟨A2, e2⟩ : ∃ A, A1.setCell ⟨w.heap.size, 1, none⟩ (.int .u8 (d.byte.toNat : Int)) = A := ⟨_, rfl⟩
        obtain ⟨A3, e3⟩ : ∃ A, A2.setCell ⟨w.heap.size, 2, none⟩ (.slice va d.kids.length vc) = A := ⟨_, rfl⟩
        have G1 : w5.grownBy A1 (some w.heap.size) := by rw [← e1]; exact grown_set _ _ _ _
        have G2 : A1.grownBy A2 (some w.heap.size) := by rw [← e2]; exact grown_set _ _ _ _
        have G3 : A2.grownBy A3 (some w.heap.size) := by rw [← e3]; exact grown_set _ _ _ _
        have G13 : w5.grownBy A3 (some w.heap.size) := grown_tr (grown_tr G1 G2) G3
        have hrA : RdAt A3 (w.heap.size + 2) s q := hr5.grown G13 hne0
        obtain ⟨_, b1, c1, _⟩ := set_step e1
        obtain ⟨_, b2, c2, _⟩ := set_step e2
        obtain ⟨_, b3, c3, _⟩ := set_step e3
        have f0 : A3.cell? ⟨w.heap.size, 0, none⟩ = some (.int .i64 d.rule) := (b3 0 (by omega)).trans ((b2 0 (by omega)).trans (c1 _ t0))
        have f1 : A3.cell? ⟨w.heap.size, 1, none⟩ = some (.int .u8 (d.byte.toNat : Int)) := (b3 1 (by omega)).trans (c2 _ ((b1 1 (by omega)).trans t1))
        have f2 : A3.cell? ⟨w.heap.size, 2, none⟩ = some (.slice va d.kids.length vc) := c3 _ ((b2 2 (by omega)).trans ((b1 2 (by omega)).trans t2))
        have z0' : A3.frozen? ⟨w.heap.size, 0, none⟩ = false := by rw [← e3, ← e2, ← e1]; simpa using z0
        have z1' : A3.frozen? ⟨w.heap.size, 1, none⟩ = false := by rw [← e3, ← e2, ← e1]; simpa using z1
        have z2' : A3.frozen? ⟨w.heap.size, 2, none⟩ = false := by rw [← e3, ← e2, ← e1]; simpa using z2
        have hA3s := G13.size
        have k1 : ∀ j, A3.cell? ⟨w.heap.size + 1, j, none⟩ = w5.cell? ⟨w.heap.size + 1, j, none⟩ := fun j => G13.cell_far ⟨w.heap.size + 1, j, none⟩ (by show w.heap.size + 1 < _; have := HHX.out; omega) (by simp)
        have k2 : ∀ j, A3.frozen? ⟨w.heap.size + 1, j, none⟩ = w5.frozen? ⟨w.heap.size + 1, j, none⟩ := fun j => G13.frozen_far ⟨w.heap.size + 1, j, none⟩ (by show w.heap.size + 1 < _; have := HHX.out; omega) (by simp)
        have HFF : Hid _ := fun (_ : Unit) => HFL.out A3 hrA
        have q1 := hrA.at'
        have HG5 : Hid _ := hg5
        have HG13 : Hid _ := G13
        have HCF : Hid _ := fun (_ : Unit) => caught_fault w.heap.size (w.heap.size + 1) q 15 _ _ _ _ _ A3 (by omega) (by have := HHX.out; omega) (by have := HHX.out; omega) f0 f1 f2 ((k1 0).trans g0) ((k1 1).trans g1) z0' z1' z2' ((k2 0).trans y0) ((k2 1).trans y1)
        have HE0 : Hid (A3.heap.size = w5.heap.size) := by show _ = _; rw [← e3, ← e2, ← e1]; simp [World.setCell]
        clear hg5 htin hvc hr5 hrA G1 G2 G3 G13 b1 b2 b3 c1 c2 c3 f0 f1 f2 z0' z1' z2' k1 k2 hA3s
        subst e3
        subst e2
        subst e1
        go_wp2_with (go_at_call 59; refine (HFF.out ()).mono ?_)
        first | rintro e w7 rfl rfl | rintro e w7 ⟨rfl, rfl⟩
        simp only [FE]
        go_wp2
        refine leaves_cons (f := 57) (args := #[.pointer (some ⟨w.heap.size, 0, none⟩), .pointer (some ⟨w.heap.size + 1, 0, none⟩)]) (by simp) (by simp [go_sem]) ?_
        refine (HCF.out ()).mono ?_
        rintro e u' w6 ⟨rfl, rfl, r0, r1, r2, r3, r4, ho, htp, hou, hsz, hbl⟩
        refine ⟨.tuple #[.agg #[.int .i64 0, .int .u8 0, .slice none 0 0], .agg #[.int .i64 (q : Int), .int .i64 15]], by simp [results, Tryd.results35, go_sem, r0, r1, r2, r3, r4], ?_⟩
        show PPost (2 * s.size + 2) w (rpar s) _ _
        rw [HP.out]
        refine ⟨rfl, ⟨((ho.trans HG13.out.os).trans HG5.out.os).trans HB3.out.os, ((htp.trans HG13.out.tape).trans HG5.out.tape).trans HB3.out.tape, ((hou.trans HG13.out.output).trans HG5.out.output).trans HB3.out.output, by have := HB3.out.size; omega, fun b hb => ?_⟩⟩
        have h3 := HS3.out
        exact (((hbl b (by omega) (by omega) (by omega)).trans (HG13.out.block b (by omega) (by simp; omega))).trans (HG5.out.block b (by omega) (by simp; omega))).trans (HB3.out.block b hb)
      · have hqe : q = s.size := by omega
        have hqI : ¬ (q : Int) < (s.size : Int) := by omega
        have HP : Hid (rpar s = .ok d q) := by show _ = _; rw [hrp, if_neg hq]
        clear ht hr hc hB3 s3 hrd hl hpq hrp hq hqe
        go_enter_defers Tryd.func35, Tryd.ntmps35
        go_wp2_with (go_at_call 58; refine (HT.out ()).mono ?_)
        first | rintro e w5 va vc rfl hvc htin hr5 hg5 | rintro e w5 ⟨⟨va, vc, rfl, hvc, htin⟩, hr5, hg5⟩
        obtain ⟨t0, t1, t2, g0, g1, z0, z1, z2, y0, y1⟩ := HC.out w5 hg5
        have hs5 := hg5.size
        have hne0 : w.heap.size + 2 ≠ w.heap.size := by omega
        obtain ⟨A1, e1⟩ : ∃ A, w5.setCell ⟨w.heap.size, 0, none⟩ (.int .i64 d.rule) = A := ⟨_, rfl⟩
        obtain ⟨A2, e2⟩ : ∃ A, A1.setCell ⟨w.heap.size, 1, none⟩ (.int .u8 (d.byte.toNat : Int)) = A := ⟨_, rfl⟩
        obtain ⟨A3, e3⟩ : ∃ A, A2.setCell ⟨w.heap.size, 2, none⟩ (.slice va d.kids.length vc) = A := ⟨_, rfl⟩
        have G1 : w5.grownBy A1 (some w.heap.size) := by rw [← e1]; exact grown_set _ _ _ _
        have G2 : A1.grownBy A2 (some w.heap.size) := by rw [← e2]; exact grown_set _ _ _ _
        have G3 : A2.grownBy A3 (some w.heap.size) := by rw [← e3]; exact grown_set _ _ _ _
        have G13 : w5.grownBy A3 (some w.heap.size) := grown_tr (grown_tr G1 G2) G3
        have hrA : RdAt A3 (w.heap.size + 2) s q := hr5.grown G13 hne0
        obtain ⟨_, b1, c1, _⟩ := set_step e1
        obtain ⟨_, b2, c2, _⟩ := set_step e2
        obtain ⟨_, b3, c3, _⟩ := set_step e3
        have f0 : A3.cell? ⟨w.heap.size, 0, none⟩ = some (.int .i64 d.rule) := (b3 0 (by omega)).trans ((b2 0 (by omega)).trans (c1 _ t0))
        have f1 : A3.cell? ⟨w.heap.size, 1, none⟩ = some (.int .u8 (d.byte.toNat : Int)) := (b3 1 (by omega)).trans (c2 _ ((b1 1 (by omega)).trans t1))
        have f2 : A3.cell? ⟨w.heap.size, 2, none⟩ = some (.slice va d.kids.length vc) := c3 _ ((b2 2 (by omega)).trans ((b1 2 (by omega)).trans t2))
        have k1 : ∀ j, A3.cell? ⟨w.heap.size + 1, j, none⟩ = w5.cell? ⟨w.heap.size + 1, j, none⟩ := fun j => G13.cell_far ⟨w.heap.size + 1, j, none⟩ (by show w.heap.size + 1 < _; have := HHX.out; omega) (by simp)
        have k2 : ∀ j, A3.frozen? ⟨w.heap.size + 1, j, none⟩ = w5.frozen? ⟨w.heap.size + 1, j, none⟩ := fun j => G13.frozen_far ⟨w.heap.size + 1, j, none⟩ (by show w.heap.size + 1 < _; have := HHX.out; omega) (by simp)
        have z0' : A3.frozen? ⟨w.heap.size, 0, none⟩ = false := by rw [← e3, ← e2, ← e1]; simpa using z0
        have z1' : A3.frozen? ⟨w.heap.size, 1, none⟩ = false := by rw [← e3, ← e2, ← e1]; simpa using z1
        have z2' : A3.frozen? ⟨w.heap.size, 2, none⟩ = false := by rw [← e3, ← e2, ← e1]; simpa using z2
        have m0 := (k1 0).trans g0
        have m1 := (k1 1).trans g1
        have o0 := (k2 0).trans y0
        have o1 := (k2 1).trans y1
        have q1 := hrA.at'
        have HE0 : Hid (A3.heap.size = w5.heap.size) := by show _ = _; rw [← e3, ← e2, ← e1]; simp [World.setCell]
        have HTI : Hid _ := fun (_ : Unit) => htin
        have HVC : Hid _ := hvc
        have HG5 : Hid _ := hg5
        have HG13 : Hid _ := G13
        clear hg5 htin hvc hr5 hrA G1 G2 G3 G13 b1 b2 b3 c1 c2 c3 k1 k2
        have HFIN : Hid (∀ X, X = ((((A3.setCell ⟨w.heap.size, 0, none⟩ (.int .i64 d.rule)).setCell ⟨w.heap.size, 1, none⟩ (.int .u8 (d.byte.toNat : Int))).setCell ⟨w.heap.size, 2, none⟩ (.slice va d.kids.length vc)).setCell ⟨w.heap.size + 1, 0, none⟩ (.int .i64 0)).setCell ⟨w.heap.size + 1, 1, none⟩ (.int .i64 0) → (X.cell? ⟨w.heap.size, 0, none⟩ = some (.int .i64 d.rule) ∧ X.cell? ⟨w.heap.size, 1, none⟩ = some (.int .u8 (d.byte.toNat : Int)) ∧ X.cell? ⟨w.heap.size, 2, none⟩ = some (.slice va d.kids.length vc) ∧ X.cell? ⟨w.heap.size + 1, 0, none⟩ = some (.int .i64 0) ∧ X.cell? ⟨w.heap.size + 1, 1, none⟩ = some (.int .i64 0)) ∧ TIn X (fun b => w.heap.size ≤ b ∧ b < X.heap.size) (2 * s.size + 2) va d.kids ∧ Below w.heap.size w X) := fun X hX => by
          obtain ⟨hcs, ho, htp, hou, hsz, hbl⟩ := told_world w.heap.size d.rule d.byte (.slice va d.kids.length vc) A3 X f0 f1 f2 m0 m1 hX
          have h3 := HS3.out
          have hA3 := HE0.out
          refine ⟨hcs, ?_, ⟨((ho.trans HG13.out.os).trans HG5.out.os).trans HB3.out.os, ((htp.trans HG13.out.tape).trans HG5.out.tape).trans HB3.out.tape, ((hou.trans HG13.out.output).trans HG5.out.output).trans HB3.out.output, by omega, fun b hb => ?_⟩⟩
          · refine ((HTI.out ()).keep (fun b hb q => ?_)).wide (fun b hb => ⟨by omega, by omega⟩)
            exact World.cell?_of_block (a := ⟨b, q, none⟩) ((hbl b (by omega) (by omega)).trans (HG13.out.block b hb.2 (by simp; omega)))
          · exact (((hbl b (by omega) (by omega)).trans (HG13.out.block b (by omega) (by simp; omega))).trans (HG5.out.block b (by omega) (by simp; omega))).trans (HB3.out.block b hb)
        clear HTI HG5 HG13 HE0
        subst e3
        subst e2
        subst e1
        go_wp2
        refine leaves_cons (f := 57) (args := #[.pointer (some ⟨w.heap.size, 0, none⟩), .pointer (some ⟨w.heap.size + 1, 0, none⟩)]) (by simp) (by simp [go_sem]) ?_
        obtain ⟨X, hX⟩ : ∃ X, X = ((((((((w5.setCell ⟨w.heap.size, 0, none⟩ (.int .i64 d.rule)).setCell ⟨w.heap.size, 1, none⟩ (.int .u8 (d.byte.toNat : Int))).setCell ⟨w.heap.size, 2, none⟩ (.slice va d.kids.length vc)).setCell ⟨w.heap.size, 0, none⟩ (.int .i64 d.rule)).setCell ⟨w.heap.size, 1, none⟩ (.int .u8 (d.byte.toNat : Int))).setCell ⟨w.heap.size, 2, none⟩ (.slice va d.kids.length vc)).setCell ⟨w.heap.size + 1, 0, none⟩ (.int .i64 0)).setCell ⟨w.heap.size + 1, 1, none⟩ (.int .i64 0)) := ⟨_, rfl⟩
        obtain ⟨⟨r0, r1, r2, r3, r4⟩, hti, hbe⟩ := HFIN.out X hX
        rw [← hX]
        refine (caught_none w.heap.size (w.heap.size + 1) X).mono ?_
        rintro e u' w6 ⟨rfl, rfl, rfl⟩
        refine ⟨.tuple #[.agg #[.int .i64 d.rule, .int .u8 (d.byte.toNat : Int), .slice va d.kids.length vc], .agg #[.int .i64 0, .int .i64 0]], by simp [results, Tryd.results35, go_sem, r0, r1, r2, r3, r4], ?_⟩
        show PPost (2 * s.size + 2) w (rpar s) _ _
        rw [HP.out]
        exact ⟨⟨va, vc, rfl, HVC.out, hti⟩, hbe⟩
end
end Go.Proofs.YtlnlkbkmnkjbhaaDoor
