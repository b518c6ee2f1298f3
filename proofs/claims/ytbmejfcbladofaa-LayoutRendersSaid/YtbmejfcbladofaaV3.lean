/- A page is made: newPage. -/
import Derived.Test.YtbmejfcbladofaaV2r
namespace Go.Proofs.Ytbmejfcbladofaa
open Go.RowKit Go.Shelf

attribute [local go_sem] Oper.semAt_some

set_option maxRecDepth 100000 in
set_option maxHeartbeats 4000000 in
theorem newPage_any (l : List Th) (v : Value) (tb : Nat) (wd : Int) (w : World) (hth : ThAt w tb v l) (htb : tb < w.heap.size) (hl : OkL l) (hlen : l.length ≤ 1000000) :
    Calls Try.prog 33 #[v, .int .i64 wd] w fun e w' => (∃ PB sb fv, e = .returned (.pointer (some ⟨PB, 0, none⟩)) ∧ w.heap.size ≤ PB ∧ PgAt w.heap.size PB tb sb ⟨wd, [], 0, 0, false⟩ l (.slice none 0 0) v fv w') ∧ Below w.heap.size w w' := by
  refine (callsIn_wide (n := 3)).1 ?_
  refine callsIn_of_wp_marks Try.func33 rfl trivial ?_ rfl
  simp only [Try.ntmps33, List.size_toArray, List.length_cons, List.length_nil, Nat.reduceAdd, Nat.reduceSub, Array.replicate_succ, Array.replicate_zero, List.push_toArray, List.append_toArray, List.nil_append, List.cons_append]
  have HTH : Hid _ := hth
  obtain ⟨a, c, rfl, hc, hcl⟩ := hth
  obtain ⟨i0, hinf, hz0, hz1, hz2⟩ := info_parts info90
  have HZ2 : Hid _ := hz2
  have HL : Hid _ := hl
  clear hcl hz2 hl
  gi_wp2_with (gi_at_make; refine listIn_make_full _ rfl _ _ 67 rfl w.heap.size 90 i0 _ 3 Try.underlying67 hinf hz0 hz1 _ _ _ _ (l.length + 1) rfl rfl ?e1 ?e2 ?b2 ?b3 (Nat.le_refl _) ?_)
  case e1 => go_num
  case e2 => go_num
  case b2 => rw [HZ2.out]; omega
  case b3 => unfold maxLen; omega
  intro w1 hown hg1
  gi_wp2_with (refine ⟨trivial, ?_⟩; gi_at_call 44; refine (callsIn_wide.2 (back_any _ _ _ _)).mono ?_; rintro e w' ⟨rfl, rfl⟩)
  obtain ⟨g, cap, cur, hv, _, hcur, _, _, hcs, hct⟩ := hown.2.resolve_left (by rintro ⟨h, _⟩; cases h)
  cases hv
  have hcur2 : cur = madeCells #[.int .i64 0, .int .i64 0, .int .i64 0] ((l.length + 1) * 3) := by
    apply Array.toList_inj.1
    rw [← hct, List.take_of_length_le (by rw [Array.length_toList, hcs]; exact Nat.le_refl _)]
  have hs1 : w.heap.size < w1.heap.size := (Array.getElem?_eq_some_iff.1 hcur).1
  have bF := (Boxed.new w1 67 (.slice (some ⟨w.heap.size, 0, none⟩) (l.length + 1) (l.length + 1))).alloc (.cells #[.slice a l.length c] 65)
  have bX := Boxed.new (w1.alloc (.cells #[.slice (some ⟨w.heap.size, 0, none⟩) (l.length + 1) (l.length + 1)] 67)) 65 (.slice a l.length c)
  obtain ⟨w3, hw3⟩ : ∃ w3, (w1.alloc (.cells #[.slice (some ⟨w.heap.size, 0, none⟩) (l.length + 1) (l.length + 1)] 67)).alloc (.cells #[.slice a l.length c] 65) = w3 := ⟨_, rfl⟩
  have s3 : w3.heap.size = w1.heap.size + 2 := by rw [← hw3]; simp
  have hB3 : Below w1.heap.size w1 w3 := by rw [← hw3]; exact ((Below.refl _ _).alloc (Nat.le_refl _) _).alloc (by simp) _
  simp only [World.size_alloc] at bF bX
  rw [hw3] at bF bX
  rw [hw3]
  have hBw : Below w.heap.size w w3 := (⟨hg1.os, hg1.tape, hg1.output, hg1.size, fun b hb => hg1.block b hb (by simp)⟩ : Below w.heap.size w w1).trans (hB3.mono (by omega))
  have hth3 : ThAt w3 tb (.slice a l.length c) l := ThAt.keep HTH.out (hBw.block tb htb)
  have h0 : NI w l w.heap.size w1.heap.size (fun b => b = w1.heap.size + 1) [] w3 := by
    refine ⟨bF, ⟨cur, (hB3.block _ hs1).trans hcur, hcs, fun j hj hj2 => ?_⟩, by simp, fun b hb => by rw [hb]; omega, hBw⟩
    simp only [List.length_nil, Nat.add_zero] at hj2
    obtain rfl : j = l.length := by omega
    rw [List.drop_length, hcur2]
    exact ⟨zero90 _ _ (by omega), zero90 _ _ (by omega), zero90 _ _ (by omega)⟩
  clear hw3 hB3 hown hg1 hcur hcs hct hcur2
  refine range_law_t (F := Fence.wide) rfl (by omega) (gf := 50) (lb := #[.pointer (some ⟨w1.heap.size + 1, 0, none⟩)]) rfl trivial (enters_of Try.func50 (by kernel_rfl) rfl)
    (back_seq (3 - 1) (by omega) (w1.heap.size + 1) w.heap.size tb (.slice a l.length c) l w3 (by omega) htb hth3 hlen (by omega) bX.cell) (by omega) (fun b hb => by rw [hb]; omega) (Below.refl _ _) (fun _ => rfl)
    (NI w l w.heap.size w1.heap.size) (fun _ _ _ _ => False) (NI.stays w l _ _ hs1 (Nat.le_refl _)) (NI.noMind w w3 l _ _ hs1 (Nat.le_refl _) (by omega)) (fun c A A' s X Y h _ _ => h.elim) (fun c A s W l o o' h _ _ _ => h.elim) h0
    (fun x => { tmps := #[.slice a l.length c, .int .i64 wd, undef, undef, .pointer none, .pointer (some ⟨w1.heap.size, 0, none⟩), .int .i64 (x.1 : Int), x.2.val, .slice a l.length c, .int .i64 (l.length : Int), .int .i64 ((l.length : Int) + 1), .slice (some ⟨w.heap.size, 0, none⟩) (l.length + 1) (l.length + 1), .slice a l.length c, .func (.func 50) #[] #[.pointer (some ⟨w1.heap.size + 1, 0, none⟩)], .int .i64 (x.1 : Int), x.2.val, undef, undef, undef, undef, undef, undef, undef, undef, undef, undef, undef, undef, undef, undef, undef, undef, undef, undef], defers := [] }) ?assign ?body ?done ?stop
  case assign =>
    intro l x W K hK
    unfold encB
    gi_wp2
    exact hK
  case body =>
    intro ly A xs x W hI hlt hx hA
    obtain ⟨i, t⟩ := x
    obtain ⟨hx1, hx2⟩ := hx
    simp only at hx1 hx2
    obtain ⟨cur, hcur, hcs, hj⟩ := hI.row
    obtain ⟨y0, y1, y2⟩ := hj (i + 1) (by omega) (by omega)
    have cx := hI.bx.cell
    have q0 := (blk_cell hcur y0).1
    have q1 := (blk_cell hcur y1).1
    have q2 := (blk_cell hcur y2).1
    have hbn := HL.out.sr (i + 1)
    have hsz := HL.out.sz t (List.mem_of_getElem? hx2)
    have HF : Hid _ := fun (W' : World) => from_any t (sr (l.drop (i + 1))) W' (by omega) (by omega) (by omega) (fun x hx => by
      rcases hx with rfl | ⟨i, rfl⟩ <;> exact Nat.le_trans hsz (by omega))
    have hi1 : (i : Int) + 1 < (l.length : Int) + 1 := by omega
    have hi2 : (i : Int) < (l.length : Int) + 1 := by omega
    have hi3 : (i : Int) < (l.length : Int) := by omega
    have hi4 : i < l.length := by omega
    have hi5 : i < l.length + 1 := by omega
    have hi6 : (0 : Int) ≤ (i : Int) + 1 := by omega
    have hmf : ∀ (fn : Fn) (first cap : Array Value) (w : World), (Instr.makeFunc fn first cap).run Try.prog w = .ok (.func fn first cap) w := fun _ _ _ _ => rfl
    have hfb := box_lt hI.bx
    have hwr : IntKind.i64.wrap ((i : Int) + 1) = ((i + 1 : Nat) : Int) := by rw [IntKind.wrap_i64]; omega
    have hi7 : ((i + 1 : Nat) : Int) < (l.length : Int) + 1 := by omega
    clear hi1
    have hcl : ∀ q, q < 3 → ∃ u, cur[i * 3 + q]? = some u := fun q hq => ⟨cur[i * 3 + q]'(by omega), by simp⟩
    obtain ⟨u0, z0⟩ := hcl 0 (by omega)
    obtain ⟨u1, z1⟩ := hcl 1 (by omega)
    obtain ⟨u2, z2⟩ := hcl 2 (by omega)
    have hsl := (Array.getElem?_eq_some_iff.1 hcur).1
    have HS : Hid (∀ w' : World, Below W.drew.heap.size W.drew w' → w'.cell? ⟨w.heap.size, i * 3, none⟩ = some u0 ∧ w'.cell? ⟨w.heap.size, i * 3 + 1, none⟩ = some u1 ∧ w'.cell? ⟨w.heap.size, i * 3 + 2, none⟩ = some u2 ∧ w'.frozen? ⟨w.heap.size, i * 3, none⟩ = false ∧ w'.frozen? ⟨w.heap.size, i * 3 + 1, none⟩ = false ∧ w'.frozen? ⟨w.heap.size, i * 3 + 2, none⟩ = false) := fun w' hb => by
      have hc := (hb.block w.heap.size hsl).trans hcur
      exact ⟨(blk_cell hc z0).1, (blk_cell hc z1).1, (blk_cell hc z2).1, (blk_cell hc z0).2, (blk_cell hc z1).2, (blk_cell hc z2).2⟩
    clear hcl
    have HFin : Hid _ := fun (w' : World) (hb : Below W.drew.heap.size W.drew w') => NI.next hI i t hx1 w' ⟨hb.os, hb.tape, hb.output, hb.size, hb.block⟩ hs1 (Nat.le_refl _) w3.heap.size (by omega) _ rfl
    have hsr : t.from (sr (l.drop (i + 1))) = sr (l.drop i) := by
      have hlt' : i < l.length := hi4
      have : l[i] = t := by have := List.getElem?_eq_getElem hlt'; rw [hx2] at this; exact (Option.some.inj this).symm
      rw [List.drop_eq_getElem_cons hlt', this]; rfl
    rw [hsr] at HF
    clear hsr
    obtain x | ⟨x, k⟩ | k | m := t
    · have HF' : Hid (∀ W', Calls Try.prog 70 #[.string x, .agg #[.int .i64 ((sr (l.drop (i + 1))).b : Int), .int .i64 ((sr (l.drop (i + 1))).n : Int), .int .i64 ((sr (l.drop (i + 1))).h : Int)]] W' fun e w' => e = .returned (.agg #[.int .i64 ((sr (l.drop i)).b : Int), .int .i64 ((sr (l.drop i)).n : Int), .int .i64 ((sr (l.drop i)).h : Int)]) ∧ Below W'.heap.size W' w') := HF.out
      have hm := from_text x
      have hna := nila_text x
      have HI : Hid _ := hI
      have HJ : Hid _ := hj
      have HX2 : Hid _ := hx2
      have HCU : Hid _ := hcur
      clear HF hj hcur hI hx2 y0 y1 y2 z0 z1 z2 hA hlt h0 bF bX hth3 hBw hsl
      simp only [Th.val]
      gi_wp2
      refine region_round ly _ (by kernel_rfl) (noDefer_spec (by kernel_rfl)) ?_
      change wpAnyIn _ _ _ _ _ _ _ _ _ (World.drew _)
      refine wpAnyIn_take (i := 1) (v := ?v1) rfl rfl (by kernel_rfl) (by kernel_rfl) (by kernel_rfl) (fun _ _ _ h => h) ⟨Or.inl ⟨by rfl, ?h1⟩, fun _ => rfl⟩ ?_
      case h1 => intro w; go_simp; try with_reducible rfl
      refine wpAnyIn_take (i := 2) (v := ?v2) rfl rfl (by kernel_rfl) (by kernel_rfl) (by kernel_rfl) (fun _ _ _ h => h) ⟨Or.inl ⟨by rfl, ?h2⟩, fun _ => rfl⟩ ?_
      case h2 => intro w; go_simp; try with_reducible rfl
      refine wpAnyIn_take (i := 4) (v := ?v3) rfl rfl (by kernel_rfl) (by kernel_rfl) (by kernel_rfl) (fun _ _ _ h => h) ⟨Or.inl ⟨by rfl, ?h3⟩, fun _ => rfl⟩ ?_
      case h3 => intro w; go_simp; try with_reducible rfl
      refine wpAnyIn_take (i := 5) (v := ?v4) rfl rfl (by kernel_rfl) (by kernel_rfl) (by kernel_rfl) (fun _ _ _ h => h) ⟨Or.inl ⟨by rfl, ?h4⟩, fun _ => rfl⟩ ?_
      case h4 => intro w; go_simp; try with_reducible rfl
      refine wpAnyIn_take (i := 8) (v := ?v5) rfl rfl (by kernel_rfl) (by kernel_rfl) (by kernel_rfl) (fun _ _ _ h => h) ⟨Or.inl ⟨by rfl, ?h5⟩, fun _ => rfl⟩ ?_
      case h5 => intro w; go_simp; try with_reducible rfl
      refine wpAnyIn_take (i := 9) (v := ?v6) rfl rfl (by kernel_rfl) (by kernel_rfl) (by kernel_rfl) (fun _ _ _ h => h) ⟨Or.inl ⟨by rfl, ?h6⟩, fun _ => rfl⟩ ?_
      case h6 => intro w; go_simp; try with_reducible rfl
      refine wpAnyIn_take (i := 10) (v := ?v7) rfl rfl (by kernel_rfl) (by kernel_rfl) (by kernel_rfl) (fun _ _ _ h => h) ⟨Or.inl ⟨by rfl, ?h7⟩, fun _ => rfl⟩ ?_
      case h7 => intro w; go_simp; try with_reducible rfl
      refine wpAnyIn_ready (rs := [0, 3]) (by kernel_rfl) (by simp) ?_
      refine AllReadyIn.cons rfl (fun K hK => ?_) (AllReadyIn.cons rfl (fun K hK => ?_) AllReadyIn.nil)
      · go_simp
        refine hK _ _ ?_
        clear hK K
        refine wpAnyIn_ready (rs := [3]) (by kernel_rfl) (by simp) ?_
        refine AllReadyIn.cons rfl (fun K hK => ?_) AllReadyIn.nil
        · go_simp
          refine hK _ _ ?_
          clear hK K
          refine wpAnyIn_take (i := 6) (v := ?v8) rfl rfl (by kernel_rfl) (by kernel_rfl) (by kernel_rfl) (fun _ _ _ h => h) ⟨Or.inl ⟨by rfl, ?h8⟩, fun _ => rfl⟩ ?_
          case h8 => intro w; go_simp; try with_reducible rfl
          refine wpAnyIn_ready (rs := [7]) (by kernel_rfl) (by simp) ?_
          refine AllReadyIn.cons rfl (fun K hK => ?_) AllReadyIn.nil
          · go_simp
            refine hK _ _ ?_
            clear hK K
            refine wpAnyIn_ready (rs := [11]) (by kernel_rfl) (by simp) ?_
            refine AllReadyIn.cons rfl (fun K hK => ?_) AllReadyIn.nil
            · go_simp
              gi_wp2_with (refine ⟨trivial, ?_⟩; gi_at_call 70; refine (callsIn_wide.2 (HF'.out _)).mono ?_; rintro e w' ⟨rfl, hb⟩; have cx2 : w'.cell? _ = _ := (hb.cell (p := ⟨w1.heap.size, 0, none⟩) hfb).trans cx; obtain ⟨g0, g1, g2, g3, g4, g5⟩ := HS.out w' hb)
              refine wpAnyIn_take (i := 12) (v := ?v9) rfl rfl (by kernel_rfl) (by kernel_rfl) (by kernel_rfl) (fun _ _ _ h => h) ⟨Or.inl ⟨by rfl, ?h9⟩, fun _ => rfl⟩ ?_
              case h9 => intro w; go_simp; try with_reducible rfl
              refine wpAnyIn_ready (rs := [13]) (by kernel_rfl) (by simp) ?_
              refine AllReadyIn.cons rfl (fun K hK => ?_) AllReadyIn.nil
              go_simp
              refine hK _ _ ?_
              clear hK K
              refine wpAnyIn_done (by kernel_rfl) ?_ _
              exact HFin.out w' hb
      · go_simp
        refine hK _ _ ?_
        clear hK K
        refine wpAnyIn_take (i := 6) (v := ?v10) rfl rfl (by kernel_rfl) (by kernel_rfl) (by kernel_rfl) (fun _ _ _ h => h) ⟨Or.inl ⟨by rfl, ?h10⟩, fun _ => rfl⟩ ?_
        case h10 => intro w; go_simp; try with_reducible rfl
        refine wpAnyIn_ready (rs := [0, 7]) (by kernel_rfl) (by simp) ?_
        refine AllReadyIn.cons rfl (fun K hK => ?_) (AllReadyIn.cons rfl (fun K hK => ?_) AllReadyIn.nil)
        · go_simp
          refine hK _ _ ?_
          clear hK K
          refine wpAnyIn_ready (rs := [7]) (by kernel_rfl) (by simp) ?_
          refine AllReadyIn.cons rfl (fun K hK => ?_) AllReadyIn.nil
          · go_simp
            refine hK _ _ ?_
            clear hK K
            refine wpAnyIn_ready (rs := [11]) (by kernel_rfl) (by simp) ?_
            refine AllReadyIn.cons rfl (fun K hK => ?_) AllReadyIn.nil
            · go_simp
              gi_wp2_with (refine ⟨trivial, ?_⟩; gi_at_call 70; refine (callsIn_wide.2 (HF'.out _)).mono ?_; rintro e w' ⟨rfl, hb⟩; have cx2 : w'.cell? _ = _ := (hb.cell (p := ⟨w1.heap.size, 0, none⟩) hfb).trans cx; obtain ⟨g0, g1, g2, g3, g4, g5⟩ := HS.out w' hb)
              refine wpAnyIn_take (i := 12) (v := ?v11) rfl rfl (by kernel_rfl) (by kernel_rfl) (by kernel_rfl) (fun _ _ _ h => h) ⟨Or.inl ⟨by rfl, ?h11⟩, fun _ => rfl⟩ ?_
              case h11 => intro w; go_simp; try with_reducible rfl
              refine wpAnyIn_ready (rs := [13]) (by kernel_rfl) (by simp) ?_
              refine AllReadyIn.cons rfl (fun K hK => ?_) AllReadyIn.nil
              go_simp
              refine hK _ _ ?_
              clear hK K
              refine wpAnyIn_done (by kernel_rfl) ?_ _
              exact HFin.out w' hb
        · go_simp
          refine hK _ _ ?_
          clear hK K
          refine wpAnyIn_ready (rs := [0, 11]) (by kernel_rfl) (by simp) ?_
          refine AllReadyIn.cons rfl (fun K hK => ?_) (AllReadyIn.cons rfl (fun K hK => ?_) AllReadyIn.nil)
          · go_simp
            refine hK _ _ ?_
            clear hK K
            refine wpAnyIn_ready (rs := [11]) (by kernel_rfl) (by simp) ?_
            refine AllReadyIn.cons rfl (fun K hK => ?_) AllReadyIn.nil
            · go_simp
              gi_wp2_with (refine ⟨trivial, ?_⟩; gi_at_call 70; refine (callsIn_wide.2 (HF'.out _)).mono ?_; rintro e w' ⟨rfl, hb⟩; have cx2 : w'.cell? _ = _ := (hb.cell (p := ⟨w1.heap.size, 0, none⟩) hfb).trans cx; obtain ⟨g0, g1, g2, g3, g4, g5⟩ := HS.out w' hb)
              refine wpAnyIn_take (i := 12) (v := ?v12) rfl rfl (by kernel_rfl) (by kernel_rfl) (by kernel_rfl) (fun _ _ _ h => h) ⟨Or.inl ⟨by rfl, ?h12⟩, fun _ => rfl⟩ ?_
              case h12 => intro w; go_simp; try with_reducible rfl
              refine wpAnyIn_ready (rs := [13]) (by kernel_rfl) (by simp) ?_
              refine AllReadyIn.cons rfl (fun K hK => ?_) AllReadyIn.nil
              go_simp
              refine hK _ _ ?_
              clear hK K
              refine wpAnyIn_done (by kernel_rfl) ?_ _
              exact HFin.out w' hb
          · go_simp
            gi_wp2_with (refine ⟨trivial, ?_⟩; gi_at_call 70; refine (callsIn_wide.2 (HF'.out _)).mono ?_; rintro e w' ⟨rfl, hb⟩; have cx2 : w'.cell? _ = _ := (hb.cell (p := ⟨w1.heap.size, 0, none⟩) hfb).trans cx; obtain ⟨g0, g1, g2, g3, g4, g5⟩ := HS.out w' hb)
            refine wpAnyIn_ready (rs := [0]) (by kernel_rfl) (by simp) ?_
            refine AllReadyIn.cons rfl (fun K hK => ?_) AllReadyIn.nil
            · go_simp
              refine hK _ _ ?_
              clear hK K
              refine wpAnyIn_take (i := 12) (v := ?v13) rfl rfl (by kernel_rfl) (by kernel_rfl) (by kernel_rfl) (fun _ _ _ h => h) ⟨Or.inl ⟨by rfl, ?h13⟩, fun _ => rfl⟩ ?_
              case h13 => intro w; go_simp; try with_reducible rfl
              refine wpAnyIn_ready (rs := [13]) (by kernel_rfl) (by simp) ?_
              refine AllReadyIn.cons rfl (fun K hK => ?_) AllReadyIn.nil
              go_simp
              refine hK _ _ ?_
              clear hK K
              refine wpAnyIn_done (by kernel_rfl) ?_ _
              exact HFin.out w' hb
    · have HF' : Hid (∀ W', Calls Try.prog 74 #[.agg #[.string x, .int .i64 k], .agg #[.int .i64 ((sr (l.drop (i + 1))).b : Int), .int .i64 ((sr (l.drop (i + 1))).n : Int), .int .i64 ((sr (l.drop (i + 1))).h : Int)]] W' fun e w' => e = .returned (.agg #[.int .i64 ((sr (l.drop i)).b : Int), .int .i64 ((sr (l.drop i)).n : Int), .int .i64 ((sr (l.drop i)).h : Int)]) ∧ Below W'.heap.size W' w') := HF.out
      have hm := from_line x k
      have hna := nila_line x k
      have HI : Hid _ := hI
      have HJ : Hid _ := hj
      have HX2 : Hid _ := hx2
      have HCU : Hid _ := hcur
      clear HF hj hcur hI hx2 y0 y1 y2 z0 z1 z2 hA hlt h0 bF bX hth3 hBw hsl
      simp only [Th.val]
      gi_wp2
      refine region_round ly _ (by kernel_rfl) (noDefer_spec (by kernel_rfl)) ?_
      change wpAnyIn _ _ _ _ _ _ _ _ _ (World.drew _)
      refine wpAnyIn_take (i := 1) (v := ?v14) rfl rfl (by kernel_rfl) (by kernel_rfl) (by kernel_rfl) (fun _ _ _ h => h) ⟨Or.inl ⟨by rfl, ?h14⟩, fun _ => rfl⟩ ?_
      case h14 => intro w; go_simp; try with_reducible rfl
      refine wpAnyIn_take (i := 2) (v := ?v15) rfl rfl (by kernel_rfl) (by kernel_rfl) (by kernel_rfl) (fun _ _ _ h => h) ⟨Or.inl ⟨by rfl, ?h15⟩, fun _ => rfl⟩ ?_
      case h15 => intro w; go_simp; try with_reducible rfl
      refine wpAnyIn_take (i := 4) (v := ?v16) rfl rfl (by kernel_rfl) (by kernel_rfl) (by kernel_rfl) (fun _ _ _ h => h) ⟨Or.inl ⟨by rfl, ?h16⟩, fun _ => rfl⟩ ?_
      case h16 => intro w; go_simp; try with_reducible rfl
      refine wpAnyIn_take (i := 5) (v := ?v17) rfl rfl (by kernel_rfl) (by kernel_rfl) (by kernel_rfl) (fun _ _ _ h => h) ⟨Or.inl ⟨by rfl, ?h17⟩, fun _ => rfl⟩ ?_
      case h17 => intro w; go_simp; try with_reducible rfl
      refine wpAnyIn_take (i := 8) (v := ?v18) rfl rfl (by kernel_rfl) (by kernel_rfl) (by kernel_rfl) (fun _ _ _ h => h) ⟨Or.inl ⟨by rfl, ?h18⟩, fun _ => rfl⟩ ?_
      case h18 => intro w; go_simp; try with_reducible rfl
      refine wpAnyIn_take (i := 9) (v := ?v19) rfl rfl (by kernel_rfl) (by kernel_rfl) (by kernel_rfl) (fun _ _ _ h => h) ⟨Or.inl ⟨by rfl, ?h19⟩, fun _ => rfl⟩ ?_
      case h19 => intro w; go_simp; try with_reducible rfl
      refine wpAnyIn_take (i := 10) (v := ?v20) rfl rfl (by kernel_rfl) (by kernel_rfl) (by kernel_rfl) (fun _ _ _ h => h) ⟨Or.inl ⟨by rfl, ?h20⟩, fun _ => rfl⟩ ?_
      case h20 => intro w; go_simp; try with_reducible rfl
      refine wpAnyIn_ready (rs := [0, 3]) (by kernel_rfl) (by simp) ?_
      refine AllReadyIn.cons rfl (fun K hK => ?_) (AllReadyIn.cons rfl (fun K hK => ?_) AllReadyIn.nil)
      · go_simp
        refine hK _ _ ?_
        clear hK K
        refine wpAnyIn_ready (rs := [3]) (by kernel_rfl) (by simp) ?_
        refine AllReadyIn.cons rfl (fun K hK => ?_) AllReadyIn.nil
        · go_simp
          refine hK _ _ ?_
          clear hK K
          refine wpAnyIn_take (i := 6) (v := ?v21) rfl rfl (by kernel_rfl) (by kernel_rfl) (by kernel_rfl) (fun _ _ _ h => h) ⟨Or.inl ⟨by rfl, ?h21⟩, fun _ => rfl⟩ ?_
          case h21 => intro w; go_simp; try with_reducible rfl
          refine wpAnyIn_ready (rs := [7]) (by kernel_rfl) (by simp) ?_
          refine AllReadyIn.cons rfl (fun K hK => ?_) AllReadyIn.nil
          · go_simp
            refine hK _ _ ?_
            clear hK K
            refine wpAnyIn_ready (rs := [11]) (by kernel_rfl) (by simp) ?_
            refine AllReadyIn.cons rfl (fun K hK => ?_) AllReadyIn.nil
            · go_simp
              gi_wp2_with (refine ⟨trivial, ?_⟩; gi_at_call 74; refine (callsIn_wide.2 (HF'.out _)).mono ?_; rintro e w' ⟨rfl, hb⟩; have cx2 : w'.cell? _ = _ := (hb.cell (p := ⟨w1.heap.size, 0, none⟩) hfb).trans cx; obtain ⟨g0, g1, g2, g3, g4, g5⟩ := HS.out w' hb)
              refine wpAnyIn_take (i := 12) (v := ?v22) rfl rfl (by kernel_rfl) (by kernel_rfl) (by kernel_rfl) (fun _ _ _ h => h) ⟨Or.inl ⟨by rfl, ?h22⟩, fun _ => rfl⟩ ?_
              case h22 => intro w; go_simp; try with_reducible rfl
              refine wpAnyIn_ready (rs := [13]) (by kernel_rfl) (by simp) ?_
              refine AllReadyIn.cons rfl (fun K hK => ?_) AllReadyIn.nil
              go_simp
              refine hK _ _ ?_
              clear hK K
              refine wpAnyIn_done (by kernel_rfl) ?_ _
              exact HFin.out w' hb
      · go_simp
        refine hK _ _ ?_
        clear hK K
        refine wpAnyIn_take (i := 6) (v := ?v23) rfl rfl (by kernel_rfl) (by kernel_rfl) (by kernel_rfl) (fun _ _ _ h => h) ⟨Or.inl ⟨by rfl, ?h23⟩, fun _ => rfl⟩ ?_
        case h23 => intro w; go_simp; try with_reducible rfl
        refine wpAnyIn_ready (rs := [0, 7]) (by kernel_rfl) (by simp) ?_
        refine AllReadyIn.cons rfl (fun K hK => ?_) (AllReadyIn.cons rfl (fun K hK => ?_) AllReadyIn.nil)
        · go_simp
          refine hK _ _ ?_
          clear hK K
          refine wpAnyIn_ready (rs := [7]) (by kernel_rfl) (by simp) ?_
          refine AllReadyIn.cons rfl (fun K hK => ?_) AllReadyIn.nil
          · go_simp
            refine hK _ _ ?_
            clear hK K
            refine wpAnyIn_ready (rs := [11]) (by kernel_rfl) (by simp) ?_
            refine AllReadyIn.cons rfl (fun K hK => ?_) AllReadyIn.nil
            · go_simp
              gi_wp2_with (refine ⟨trivial, ?_⟩; gi_at_call 74; refine (callsIn_wide.2 (HF'.out _)).mono ?_; rintro e w' ⟨rfl, hb⟩; have cx2 : w'.cell? _ = _ := (hb.cell (p := ⟨w1.heap.size, 0, none⟩) hfb).trans cx; obtain ⟨g0, g1, g2, g3, g4, g5⟩ := HS.out w' hb)
              refine wpAnyIn_take (i := 12) (v := ?v24) rfl rfl (by kernel_rfl) (by kernel_rfl) (by kernel_rfl) (fun _ _ _ h => h) ⟨Or.inl ⟨by rfl, ?h24⟩, fun _ => rfl⟩ ?_
              case h24 => intro w; go_simp; try with_reducible rfl
              refine wpAnyIn_ready (rs := [13]) (by kernel_rfl) (by simp) ?_
              refine AllReadyIn.cons rfl (fun K hK => ?_) AllReadyIn.nil
              go_simp
              refine hK _ _ ?_
              clear hK K
              refine wpAnyIn_done (by kernel_rfl) ?_ _
              exact HFin.out w' hb
        · go_simp
          refine hK _ _ ?_
          clear hK K
          refine wpAnyIn_ready (rs := [0, 11]) (by kernel_rfl) (by simp) ?_
          refine AllReadyIn.cons rfl (fun K hK => ?_) (AllReadyIn.cons rfl (fun K hK => ?_) AllReadyIn.nil)
          · go_simp
            refine hK _ _ ?_
            clear hK K
            refine wpAnyIn_ready (rs := [11]) (by kernel_rfl) (by simp) ?_
            refine AllReadyIn.cons rfl (fun K hK => ?_) AllReadyIn.nil
            · go_simp
              gi_wp2_with (refine ⟨trivial, ?_⟩; gi_at_call 74; refine (callsIn_wide.2 (HF'.out _)).mono ?_; rintro e w' ⟨rfl, hb⟩; have cx2 : w'.cell? _ = _ := (hb.cell (p := ⟨w1.heap.size, 0, none⟩) hfb).trans cx; obtain ⟨g0, g1, g2, g3, g4, g5⟩ := HS.out w' hb)
              refine wpAnyIn_take (i := 12) (v := ?v25) rfl rfl (by kernel_rfl) (by kernel_rfl) (by kernel_rfl) (fun _ _ _ h => h) ⟨Or.inl ⟨by rfl, ?h25⟩, fun _ => rfl⟩ ?_
              case h25 => intro w; go_simp; try with_reducible rfl
              refine wpAnyIn_ready (rs := [13]) (by kernel_rfl) (by simp) ?_
              refine AllReadyIn.cons rfl (fun K hK => ?_) AllReadyIn.nil
              go_simp
              refine hK _ _ ?_
              clear hK K
              refine wpAnyIn_done (by kernel_rfl) ?_ _
              exact HFin.out w' hb
          · go_simp
            gi_wp2_with (refine ⟨trivial, ?_⟩; gi_at_call 74; refine (callsIn_wide.2 (HF'.out _)).mono ?_; rintro e w' ⟨rfl, hb⟩; have cx2 : w'.cell? _ = _ := (hb.cell (p := ⟨w1.heap.size, 0, none⟩) hfb).trans cx; obtain ⟨g0, g1, g2, g3, g4, g5⟩ := HS.out w' hb)
            refine wpAnyIn_ready (rs := [0]) (by kernel_rfl) (by simp) ?_
            refine AllReadyIn.cons rfl (fun K hK => ?_) AllReadyIn.nil
            · go_simp
              refine hK _ _ ?_
              clear hK K
              refine wpAnyIn_take (i := 12) (v := ?v26) rfl rfl (by kernel_rfl) (by kernel_rfl) (by kernel_rfl) (fun _ _ _ h => h) ⟨Or.inl ⟨by rfl, ?h26⟩, fun _ => rfl⟩ ?_
              case h26 => intro w; go_simp; try with_reducible rfl
              refine wpAnyIn_ready (rs := [13]) (by kernel_rfl) (by simp) ?_
              refine AllReadyIn.cons rfl (fun K hK => ?_) AllReadyIn.nil
              go_simp
              refine hK _ _ ?_
              clear hK K
              refine wpAnyIn_done (by kernel_rfl) ?_ _
              exact HFin.out w' hb
    · have HF' : Hid (∀ W', Calls Try.prog 87 #[.agg #[.int .i64 k], .agg #[.int .i64 ((sr (l.drop (i + 1))).b : Int), .int .i64 ((sr (l.drop (i + 1))).n : Int), .int .i64 ((sr (l.drop (i + 1))).h : Int)]] W' fun e w' => e = .returned (.agg #[.int .i64 ((sr (l.drop i)).b : Int), .int .i64 ((sr (l.drop i)).n : Int), .int .i64 ((sr (l.drop i)).h : Int)]) ∧ Below W'.heap.size W' w') := HF.out
      have hm := from_hard k
      have hna := nila_hard k
      have HI : Hid _ := hI
      have HJ : Hid _ := hj
      have HX2 : Hid _ := hx2
      have HCU : Hid _ := hcur
      clear HF hj hcur hI hx2 y0 y1 y2 z0 z1 z2 hA hlt h0 bF bX hth3 hBw hsl
      simp only [Th.val]
      gi_wp2
      refine region_round ly _ (by kernel_rfl) (noDefer_spec (by kernel_rfl)) ?_
      change wpAnyIn _ _ _ _ _ _ _ _ _ (World.drew _)
      refine wpAnyIn_take (i := 1) (v := ?v27) rfl rfl (by kernel_rfl) (by kernel_rfl) (by kernel_rfl) (fun _ _ _ h => h) ⟨Or.inl ⟨by rfl, ?h27⟩, fun _ => rfl⟩ ?_
      case h27 => intro w; go_simp; try with_reducible rfl
      refine wpAnyIn_take (i := 2) (v := ?v28) rfl rfl (by kernel_rfl) (by kernel_rfl) (by kernel_rfl) (fun _ _ _ h => h) ⟨Or.inl ⟨by rfl, ?h28⟩, fun _ => rfl⟩ ?_
      case h28 => intro w; go_simp; try with_reducible rfl
      refine wpAnyIn_take (i := 4) (v := ?v29) rfl rfl (by kernel_rfl) (by kernel_rfl) (by kernel_rfl) (fun _ _ _ h => h) ⟨Or.inl ⟨by rfl, ?h29⟩, fun _ => rfl⟩ ?_
      case h29 => intro w; go_simp; try with_reducible rfl
      refine wpAnyIn_take (i := 5) (v := ?v30) rfl rfl (by kernel_rfl) (by kernel_rfl) (by kernel_rfl) (fun _ _ _ h => h) ⟨Or.inl ⟨by rfl, ?h30⟩, fun _ => rfl⟩ ?_
      case h30 => intro w; go_simp; try with_reducible rfl
      refine wpAnyIn_take (i := 8) (v := ?v31) rfl rfl (by kernel_rfl) (by kernel_rfl) (by kernel_rfl) (fun _ _ _ h => h) ⟨Or.inl ⟨by rfl, ?h31⟩, fun _ => rfl⟩ ?_
      case h31 => intro w; go_simp; try with_reducible rfl
      refine wpAnyIn_take (i := 9) (v := ?v32) rfl rfl (by kernel_rfl) (by kernel_rfl) (by kernel_rfl) (fun _ _ _ h => h) ⟨Or.inl ⟨by rfl, ?h32⟩, fun _ => rfl⟩ ?_
      case h32 => intro w; go_simp; try with_reducible rfl
      refine wpAnyIn_take (i := 10) (v := ?v33) rfl rfl (by kernel_rfl) (by kernel_rfl) (by kernel_rfl) (fun _ _ _ h => h) ⟨Or.inl ⟨by rfl, ?h33⟩, fun _ => rfl⟩ ?_
      case h33 => intro w; go_simp; try with_reducible rfl
      refine wpAnyIn_ready (rs := [0, 3]) (by kernel_rfl) (by simp) ?_
      refine AllReadyIn.cons rfl (fun K hK => ?_) (AllReadyIn.cons rfl (fun K hK => ?_) AllReadyIn.nil)
      · go_simp
        refine hK _ _ ?_
        clear hK K
        refine wpAnyIn_ready (rs := [3]) (by kernel_rfl) (by simp) ?_
        refine AllReadyIn.cons rfl (fun K hK => ?_) AllReadyIn.nil
        · go_simp
          refine hK _ _ ?_
          clear hK K
          refine wpAnyIn_take (i := 6) (v := ?v34) rfl rfl (by kernel_rfl) (by kernel_rfl) (by kernel_rfl) (fun _ _ _ h => h) ⟨Or.inl ⟨by rfl, ?h34⟩, fun _ => rfl⟩ ?_
          case h34 => intro w; go_simp; try with_reducible rfl
          refine wpAnyIn_ready (rs := [7]) (by kernel_rfl) (by simp) ?_
          refine AllReadyIn.cons rfl (fun K hK => ?_) AllReadyIn.nil
          · go_simp
            refine hK _ _ ?_
            clear hK K
            refine wpAnyIn_ready (rs := [11]) (by kernel_rfl) (by simp) ?_
            refine AllReadyIn.cons rfl (fun K hK => ?_) AllReadyIn.nil
            · go_simp
              gi_wp2_with (refine ⟨trivial, ?_⟩; gi_at_call 87; refine (callsIn_wide.2 (HF'.out _)).mono ?_; rintro e w' ⟨rfl, hb⟩; have cx2 : w'.cell? _ = _ := (hb.cell (p := ⟨w1.heap.size, 0, none⟩) hfb).trans cx; obtain ⟨g0, g1, g2, g3, g4, g5⟩ := HS.out w' hb)
              refine wpAnyIn_take (i := 12) (v := ?v35) rfl rfl (by kernel_rfl) (by kernel_rfl) (by kernel_rfl) (fun _ _ _ h => h) ⟨Or.inl ⟨by rfl, ?h35⟩, fun _ => rfl⟩ ?_
              case h35 => intro w; go_simp; try with_reducible rfl
              refine wpAnyIn_ready (rs := [13]) (by kernel_rfl) (by simp) ?_
              refine AllReadyIn.cons rfl (fun K hK => ?_) AllReadyIn.nil
              go_simp
              refine hK _ _ ?_
              clear hK K
              refine wpAnyIn_done (by kernel_rfl) ?_ _
              exact HFin.out w' hb
      · go_simp
        refine hK _ _ ?_
        clear hK K
        refine wpAnyIn_take (i := 6) (v := ?v36) rfl rfl (by kernel_rfl) (by kernel_rfl) (by kernel_rfl) (fun _ _ _ h => h) ⟨Or.inl ⟨by rfl, ?h36⟩, fun _ => rfl⟩ ?_
        case h36 => intro w; go_simp; try with_reducible rfl
        refine wpAnyIn_ready (rs := [0, 7]) (by kernel_rfl) (by simp) ?_
        refine AllReadyIn.cons rfl (fun K hK => ?_) (AllReadyIn.cons rfl (fun K hK => ?_) AllReadyIn.nil)
        · go_simp
          refine hK _ _ ?_
          clear hK K
          refine wpAnyIn_ready (rs := [7]) (by kernel_rfl) (by simp) ?_
          refine AllReadyIn.cons rfl (fun K hK => ?_) AllReadyIn.nil
          · go_simp
            refine hK _ _ ?_
            clear hK K
            refine wpAnyIn_ready (rs := [11]) (by kernel_rfl) (by simp) ?_
            refine AllReadyIn.cons rfl (fun K hK => ?_) AllReadyIn.nil
            · go_simp
              gi_wp2_with (refine ⟨trivial, ?_⟩; gi_at_call 87; refine (callsIn_wide.2 (HF'.out _)).mono ?_; rintro e w' ⟨rfl, hb⟩; have cx2 : w'.cell? _ = _ := (hb.cell (p := ⟨w1.heap.size, 0, none⟩) hfb).trans cx; obtain ⟨g0, g1, g2, g3, g4, g5⟩ := HS.out w' hb)
              refine wpAnyIn_take (i := 12) (v := ?v37) rfl rfl (by kernel_rfl) (by kernel_rfl) (by kernel_rfl) (fun _ _ _ h => h) ⟨Or.inl ⟨by rfl, ?h37⟩, fun _ => rfl⟩ ?_
              case h37 => intro w; go_simp; try with_reducible rfl
              refine wpAnyIn_ready (rs := [13]) (by kernel_rfl) (by simp) ?_
              refine AllReadyIn.cons rfl (fun K hK => ?_) AllReadyIn.nil
              go_simp
              refine hK _ _ ?_
              clear hK K
              refine wpAnyIn_done (by kernel_rfl) ?_ _
              exact HFin.out w' hb
        · go_simp
          refine hK _ _ ?_
          clear hK K
          refine wpAnyIn_ready (rs := [0, 11]) (by kernel_rfl) (by simp) ?_
          refine AllReadyIn.cons rfl (fun K hK => ?_) (AllReadyIn.cons rfl (fun K hK => ?_) AllReadyIn.nil)
          · go_simp
            refine hK _ _ ?_
            clear hK K
            refine wpAnyIn_ready (rs := [11]) (by kernel_rfl) (by simp) ?_
            refine AllReadyIn.cons rfl (fun K hK => ?_) AllReadyIn.nil
            · go_simp
              gi_wp2_with (refine ⟨trivial, ?_⟩; gi_at_call 87; refine (callsIn_wide.2 (HF'.out _)).mono ?_; rintro e w' ⟨rfl, hb⟩; have cx2 : w'.cell? _ = _ := (hb.cell (p := ⟨w1.heap.size, 0, none⟩) hfb).trans cx; obtain ⟨g0, g1, g2, g3, g4, g5⟩ := HS.out w' hb)
              refine wpAnyIn_take (i := 12) (v := ?v38) rfl rfl (by kernel_rfl) (by kernel_rfl) (by kernel_rfl) (fun _ _ _ h => h) ⟨Or.inl ⟨by rfl, ?h38⟩, fun _ => rfl⟩ ?_
              case h38 => intro w; go_simp; try with_reducible rfl
              refine wpAnyIn_ready (rs := [13]) (by kernel_rfl) (by simp) ?_
              refine AllReadyIn.cons rfl (fun K hK => ?_) AllReadyIn.nil
              go_simp
              refine hK _ _ ?_
              clear hK K
              refine wpAnyIn_done (by kernel_rfl) ?_ _
              exact HFin.out w' hb
          · go_simp
            gi_wp2_with (refine ⟨trivial, ?_⟩; gi_at_call 87; refine (callsIn_wide.2 (HF'.out _)).mono ?_; rintro e w' ⟨rfl, hb⟩; have cx2 : w'.cell? _ = _ := (hb.cell (p := ⟨w1.heap.size, 0, none⟩) hfb).trans cx; obtain ⟨g0, g1, g2, g3, g4, g5⟩ := HS.out w' hb)
            refine wpAnyIn_ready (rs := [0]) (by kernel_rfl) (by simp) ?_
            refine AllReadyIn.cons rfl (fun K hK => ?_) AllReadyIn.nil
            · go_simp
              refine hK _ _ ?_
              clear hK K
              refine wpAnyIn_take (i := 12) (v := ?v39) rfl rfl (by kernel_rfl) (by kernel_rfl) (by kernel_rfl) (fun _ _ _ h => h) ⟨Or.inl ⟨by rfl, ?h39⟩, fun _ => rfl⟩ ?_
              case h39 => intro w; go_simp; try with_reducible rfl
              refine wpAnyIn_ready (rs := [13]) (by kernel_rfl) (by simp) ?_
              refine AllReadyIn.cons rfl (fun K hK => ?_) AllReadyIn.nil
              go_simp
              refine hK _ _ ?_
              clear hK K
              refine wpAnyIn_done (by kernel_rfl) ?_ _
              exact HFin.out w' hb
    · have HF' : Hid (∀ W', Calls Try.prog 90 #[.agg #[.int .i64 (m : Int)], .agg #[.int .i64 ((sr (l.drop (i + 1))).b : Int), .int .i64 ((sr (l.drop (i + 1))).n : Int), .int .i64 ((sr (l.drop (i + 1))).h : Int)]] W' fun e w' => e = .returned (.agg #[.int .i64 ((sr (l.drop i)).b : Int), .int .i64 ((sr (l.drop i)).n : Int), .int .i64 ((sr (l.drop i)).h : Int)]) ∧ Below W'.heap.size W' w') := HF.out
      have hm := from_group m
      have hna := nila_group m
      have HI : Hid _ := hI
      have HJ : Hid _ := hj
      have HX2 : Hid _ := hx2
      have HCU : Hid _ := hcur
      clear HF hj hcur hI hx2 y0 y1 y2 z0 z1 z2 hA hlt h0 bF bX hth3 hBw hsl
      simp only [Th.val]
      gi_wp2
      refine region_round ly _ (by kernel_rfl) (noDefer_spec (by kernel_rfl)) ?_
      change wpAnyIn _ _ _ _ _ _ _ _ _ (World.drew _)
      refine wpAnyIn_take (i := 1) (v := ?v40) rfl rfl (by kernel_rfl) (by kernel_rfl) (by kernel_rfl) (fun _ _ _ h => h) ⟨Or.inl ⟨by rfl, ?h40⟩, fun _ => rfl⟩ ?_
      case h40 => intro w; go_simp; try with_reducible rfl
      refine wpAnyIn_take (i := 2) (v := ?v41) rfl rfl (by kernel_rfl) (by kernel_rfl) (by kernel_rfl) (fun _ _ _ h => h) ⟨Or.inl ⟨by rfl, ?h41⟩, fun _ => rfl⟩ ?_
      case h41 => intro w; go_simp; try with_reducible rfl
      refine wpAnyIn_take (i := 4) (v := ?v42) rfl rfl (by kernel_rfl) (by kernel_rfl) (by kernel_rfl) (fun _ _ _ h => h) ⟨Or.inl ⟨by rfl, ?h42⟩, fun _ => rfl⟩ ?_
      case h42 => intro w; go_simp; try with_reducible rfl
      refine wpAnyIn_take (i := 5) (v := ?v43) rfl rfl (by kernel_rfl) (by kernel_rfl) (by kernel_rfl) (fun _ _ _ h => h) ⟨Or.inl ⟨by rfl, ?h43⟩, fun _ => rfl⟩ ?_
      case h43 => intro w; go_simp; try with_reducible rfl
      refine wpAnyIn_take (i := 8) (v := ?v44) rfl rfl (by kernel_rfl) (by kernel_rfl) (by kernel_rfl) (fun _ _ _ h => h) ⟨Or.inl ⟨by rfl, ?h44⟩, fun _ => rfl⟩ ?_
      case h44 => intro w; go_simp; try with_reducible rfl
      refine wpAnyIn_take (i := 9) (v := ?v45) rfl rfl (by kernel_rfl) (by kernel_rfl) (by kernel_rfl) (fun _ _ _ h => h) ⟨Or.inl ⟨by rfl, ?h45⟩, fun _ => rfl⟩ ?_
      case h45 => intro w; go_simp; try with_reducible rfl
      refine wpAnyIn_take (i := 10) (v := ?v46) rfl rfl (by kernel_rfl) (by kernel_rfl) (by kernel_rfl) (fun _ _ _ h => h) ⟨Or.inl ⟨by rfl, ?h46⟩, fun _ => rfl⟩ ?_
      case h46 => intro w; go_simp; try with_reducible rfl
      refine wpAnyIn_ready (rs := [0, 3]) (by kernel_rfl) (by simp) ?_
      refine AllReadyIn.cons rfl (fun K hK => ?_) (AllReadyIn.cons rfl (fun K hK => ?_) AllReadyIn.nil)
      · go_simp
        refine hK _ _ ?_
        clear hK K
        refine wpAnyIn_ready (rs := [3]) (by kernel_rfl) (by simp) ?_
        refine AllReadyIn.cons rfl (fun K hK => ?_) AllReadyIn.nil
        · go_simp
          refine hK _ _ ?_
          clear hK K
          refine wpAnyIn_take (i := 6) (v := ?v47) rfl rfl (by kernel_rfl) (by kernel_rfl) (by kernel_rfl) (fun _ _ _ h => h) ⟨Or.inl ⟨by rfl, ?h47⟩, fun _ => rfl⟩ ?_
          case h47 => intro w; go_simp; try with_reducible rfl
          refine wpAnyIn_ready (rs := [7]) (by kernel_rfl) (by simp) ?_
          refine AllReadyIn.cons rfl (fun K hK => ?_) AllReadyIn.nil
          · go_simp
            refine hK _ _ ?_
            clear hK K
            refine wpAnyIn_ready (rs := [11]) (by kernel_rfl) (by simp) ?_
            refine AllReadyIn.cons rfl (fun K hK => ?_) AllReadyIn.nil
            · go_simp
              gi_wp2_with (refine ⟨trivial, ?_⟩; gi_at_call 90; refine (callsIn_wide.2 (HF'.out _)).mono ?_; rintro e w' ⟨rfl, hb⟩; have cx2 : w'.cell? _ = _ := (hb.cell (p := ⟨w1.heap.size, 0, none⟩) hfb).trans cx; obtain ⟨g0, g1, g2, g3, g4, g5⟩ := HS.out w' hb)
              refine wpAnyIn_take (i := 12) (v := ?v48) rfl rfl (by kernel_rfl) (by kernel_rfl) (by kernel_rfl) (fun _ _ _ h => h) ⟨Or.inl ⟨by rfl, ?h48⟩, fun _ => rfl⟩ ?_
              case h48 => intro w; go_simp; try with_reducible rfl
              refine wpAnyIn_ready (rs := [13]) (by kernel_rfl) (by simp) ?_
              refine AllReadyIn.cons rfl (fun K hK => ?_) AllReadyIn.nil
              go_simp
              refine hK _ _ ?_
              clear hK K
              refine wpAnyIn_done (by kernel_rfl) ?_ _
              exact HFin.out w' hb
      · go_simp
        refine hK _ _ ?_
        clear hK K
        refine wpAnyIn_take (i := 6) (v := ?v49) rfl rfl (by kernel_rfl) (by kernel_rfl) (by kernel_rfl) (fun _ _ _ h => h) ⟨Or.inl ⟨by rfl, ?h49⟩, fun _ => rfl⟩ ?_
        case h49 => intro w; go_simp; try with_reducible rfl
        refine wpAnyIn_ready (rs := [0, 7]) (by kernel_rfl) (by simp) ?_
        refine AllReadyIn.cons rfl (fun K hK => ?_) (AllReadyIn.cons rfl (fun K hK => ?_) AllReadyIn.nil)
        · go_simp
          refine hK _ _ ?_
          clear hK K
          refine wpAnyIn_ready (rs := [7]) (by kernel_rfl) (by simp) ?_
          refine AllReadyIn.cons rfl (fun K hK => ?_) AllReadyIn.nil
          · go_simp
            refine hK _ _ ?_
            clear hK K
            refine wpAnyIn_ready (rs := [11]) (by kernel_rfl) (by simp) ?_
            refine AllReadyIn.cons rfl (fun K hK => ?_) AllReadyIn.nil
            · go_simp
              gi_wp2_with (refine ⟨trivial, ?_⟩; gi_at_call 90; refine (callsIn_wide.2 (HF'.out _)).mono ?_; rintro e w' ⟨rfl, hb⟩; have cx2 : w'.cell? _ = _ := (hb.cell (p := ⟨w1.heap.size, 0, none⟩) hfb).trans cx; obtain ⟨g0, g1, g2, g3, g4, g5⟩ := HS.out w' hb)
              refine wpAnyIn_take (i := 12) (v := ?v50) rfl rfl (by kernel_rfl) (by kernel_rfl) (by kernel_rfl) (fun _ _ _ h => h) ⟨Or.inl ⟨by rfl, ?h50⟩, fun _ => rfl⟩ ?_
              case h50 => intro w; go_simp; try with_reducible rfl
              refine wpAnyIn_ready (rs := [13]) (by kernel_rfl) (by simp) ?_
              refine AllReadyIn.cons rfl (fun K hK => ?_) AllReadyIn.nil
              go_simp
              refine hK _ _ ?_
              clear hK K
              refine wpAnyIn_done (by kernel_rfl) ?_ _
              exact HFin.out w' hb
        · go_simp
          refine hK _ _ ?_
          clear hK K
          refine wpAnyIn_ready (rs := [0, 11]) (by kernel_rfl) (by simp) ?_
          refine AllReadyIn.cons rfl (fun K hK => ?_) (AllReadyIn.cons rfl (fun K hK => ?_) AllReadyIn.nil)
          · go_simp
            refine hK _ _ ?_
            clear hK K
            refine wpAnyIn_ready (rs := [11]) (by kernel_rfl) (by simp) ?_
            refine AllReadyIn.cons rfl (fun K hK => ?_) AllReadyIn.nil
            · go_simp
              gi_wp2_with (refine ⟨trivial, ?_⟩; gi_at_call 90; refine (callsIn_wide.2 (HF'.out _)).mono ?_; rintro e w' ⟨rfl, hb⟩; have cx2 : w'.cell? _ = _ := (hb.cell (p := ⟨w1.heap.size, 0, none⟩) hfb).trans cx; obtain ⟨g0, g1, g2, g3, g4, g5⟩ := HS.out w' hb)
              refine wpAnyIn_take (i := 12) (v := ?v51) rfl rfl (by kernel_rfl) (by kernel_rfl) (by kernel_rfl) (fun _ _ _ h => h) ⟨Or.inl ⟨by rfl, ?h51⟩, fun _ => rfl⟩ ?_
              case h51 => intro w; go_simp; try with_reducible rfl
              refine wpAnyIn_ready (rs := [13]) (by kernel_rfl) (by simp) ?_
              refine AllReadyIn.cons rfl (fun K hK => ?_) AllReadyIn.nil
              go_simp
              refine hK _ _ ?_
              clear hK K
              refine wpAnyIn_done (by kernel_rfl) ?_ _
              exact HFin.out w' hb
          · go_simp
            gi_wp2_with (refine ⟨trivial, ?_⟩; gi_at_call 90; refine (callsIn_wide.2 (HF'.out _)).mono ?_; rintro e w' ⟨rfl, hb⟩; have cx2 : w'.cell? _ = _ := (hb.cell (p := ⟨w1.heap.size, 0, none⟩) hfb).trans cx; obtain ⟨g0, g1, g2, g3, g4, g5⟩ := HS.out w' hb)
            refine wpAnyIn_ready (rs := [0]) (by kernel_rfl) (by simp) ?_
            refine AllReadyIn.cons rfl (fun K hK => ?_) AllReadyIn.nil
            · go_simp
              refine hK _ _ ?_
              clear hK K
              refine wpAnyIn_take (i := 12) (v := ?v52) rfl rfl (by kernel_rfl) (by kernel_rfl) (by kernel_rfl) (fun _ _ _ h => h) ⟨Or.inl ⟨by rfl, ?h52⟩, fun _ => rfl⟩ ?_
              case h52 => intro w; go_simp; try with_reducible rfl
              refine wpAnyIn_ready (rs := [13]) (by kernel_rfl) (by simp) ?_
              refine AllReadyIn.cons rfl (fun K hK => ?_) AllReadyIn.nil
              go_simp
              refine hK _ _ ?_
              clear hK K
              refine wpAnyIn_done (by kernel_rfl) ?_ _
              exact HFin.out w' hb
  case stop =>
    rintro D c A xs W hD _ hX _
    exact hX.elim
  case done =>
    rintro D A xs W hD hS hI hK
    have cx := hI.bx.cell
    obtain ⟨cur, hcur, hcs, hj⟩ := hI.row
    have hDl := (Array.getElem?_eq_some_iff.1 hK).1
    have hsz := hI.bel.size
    obtain ⟨W4, hW4⟩ : ∃ W4, W.alloc (.cells #[.int .i64 wd, .slice none 0 0, .int .i64 0, .int .i64 0, .bool false, .slice a l.length c, .slice (some ⟨w.heap.size, 0, none⟩) (l.length + 1) (l.length + 1)] 69) = W4 := ⟨_, rfl⟩
    have hk4 : ∀ b, b < W.heap.size → b ≠ D → (W4.putObj D (.deferred none)).heap[b]? = W.heap[b]? := fun b hb hne => by rw [← hW4]; exact (World.putObj_heap_other hne).trans (Below.heap_alloc _ _ _ (by omega))
    have hK4 : W4.heap[D]? = some (.deferred (some [])) := by rw [← hW4]; exact (Below.heap_alloc _ _ _ (by omega)).trans hK
    have hn4 : (W4.putObj D (.deferred none)).heap[W.heap.size]? = some (.cells #[.int .i64 wd, .slice none 0 0, .int .i64 0, .int .i64 0, .bool false, .slice a l.length c, .slice (some ⟨w.heap.size, 0, none⟩) (l.length + 1) (l.length + 1)] 69 (0, 0)) := by rw [← hW4]; exact (World.putObj_heap_other (by omega)).trans (World.alloc_heap_new _ _)
    have hs4 : (W4.putObj D (.deferred none)).heap.size = W.heap.size + 1 := by rw [← hW4]; simp
    have hlf := box_lt hI.bx
    have hfin : Hid (PgAt w.heap.size W.heap.size tb w.heap.size ⟨wd, [], 0, 0, false⟩ l (.slice none 0 0) (.slice a l.length c) (.slice (some ⟨w.heap.size, 0, none⟩) (l.length + 1) (l.length + 1)) (W4.putObj D (.deferred none)) ∧ Below w.heap.size w (W4.putObj D (.deferred none))) := by
      refine ⟨⟨hn4, ⟨rfl, .inl ⟨rfl, rfl⟩⟩, ThAt.keep HTH.out ((hk4 tb (by omega) (by omega)).trans (hI.bel.block tb htb)), ⟨0, l.length + 1, rfl, Nat.le_refl _, fun j hj2 => ?_⟩, (by simp [Value.ownBlock]), (by simp [Value.ownBlock]), (by simp [Value.ownBlock]), by omega, by omega, by omega, by omega, hsz⟩, ⟨?_, ?_, ?_, by omega, fun b hb => (hk4 b (by omega) (by omega)).trans (hI.bel.block b hb)⟩⟩
      · have hblk := (hk4 w.heap.size (by omega) (by omega)).trans hcur
        obtain ⟨y0, y1, y2⟩ := hj j hj2 (by omega)
        rw [Nat.zero_add]
        exact ⟨(blk_cell hblk y0).1, (blk_cell hblk y1).1, (blk_cell hblk y2).1⟩
      · rw [← hW4]; exact hI.bel.os
      · rw [← hW4]; exact hI.bel.tape
      · rw [← hW4]; exact hI.bel.output
    clear hI hj hcur hcs h0 bF bX hth3 hBw hn4 hk4
    gi_wp2
    refine ⟨by simp, .inl ⟨_, _, rfl, run_takeDeferred hK4, ?_⟩⟩
    exact ⟨.pointer (some ⟨W.heap.size, 0, none⟩), by simp [results, Try.results33, go_sem], ⟨_, _, _, rfl, hsz, hfin.out.1⟩, hfin.out.2⟩
end Go.Proofs.Ytbmejfcbladofaa
