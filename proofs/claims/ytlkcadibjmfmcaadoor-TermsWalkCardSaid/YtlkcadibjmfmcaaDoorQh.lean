/- A term's text, read: the walk. -/
import Derived.Test.YtlkcadibjmfmcaaDoorQg
namespace Go.Proofs.YtlkcadibjmfmcaaDoor
open Go.RowKit

theorem quo_len : ∀ (f : Nat) (l : List UInt8) (k : Nat) (acc : List Nat), (quo f l k acc).bytes.length ≤ acc.length + f := by
  intro f
  induction f with
  | zero => intro l k acc; simp [quo]
  | succ f ih =>
    intro l k acc
    cases l with
    | nil => simp [quo]
    | cons c l =>
      rw [quo]
      split
      · simp only; omega
      split
      · split
        · simp
        · have := ih ((c :: l).drop (rdql (c :: l)).2) (k + (rdql (c :: l)).2) (acc ++ [(rdql (c :: l)).1]); simp only [List.length_append, List.length_cons, List.length_nil] at this; omega
      split
      · have := ih l (k + 1) (acc ++ [c.toNat]); simp only [List.length_append, List.length_cons, List.length_nil] at this; omega
      · simp
theorem unq_len (l : List UInt8) : (unq l).1.length ≤ l.length := by
  unfold unq
  split
  · simp
  split
  · simp
  split
  · simp
  split
  · simp
  · have := quo_len l.length (l.drop 1) 1 []
    show (quo l.length (l.drop 1) 1 []).bytes.length ≤ _
    simpa using this
theorem rquo_len {s : ByteArray} {q m q' : Nat} {t : List Nat} (h : rquo s q m = .ok t q') : t.length ≤ s.size := by
  unfold rquo at h
  split at h
  · cases h
  split at h
  · cases h
  cases h
  have hll : (s.data.toList.drop q).length ≤ s.size := by rw [List.length_drop, list_len]; omega
  unfold unq2
  split
  · have := unq_len ((s.data.toList.drop q).take (unq (s.data.toList.drop q)).2.1)
    rw [List.length_take] at this
    simp only; omega
  · have := unq_len (s.data.toList.drop q)
    simp only; omega
/-- One kid, built into a row. -/
theorem mix_one {w5 : World} {B f : Nat} {d : Tm} {ta va : Option Addr} {tc vc : Nat} (hB : B ≤ w5.heap.size) (h1 : MIx w5 (fun b => B ≤ b ∧ b < w5.heap.size) f va d.kids) (h2 : Txx w5 (fun b => B ≤ b ∧ b < w5.heap.size) (.slice ta d.text.length tc) d.text) (hvc : d.kids.length ≤ vc) :
    MIx (w5.alloc (.cells #[.int .i64 d.kind, .string d.cons, .slice ta d.text.length tc, .slice va d.kids.length vc] 25)) (fun b => B ≤ b ∧ b < (w5.alloc (.cells #[.int .i64 d.kind, .string d.cons, .slice ta d.text.length tc, .slice va d.kids.length vc] 25)).heap.size) (f + 1) (some ⟨w5.heap.size, 0, none⟩) [d] := by
  have hal : Below w5.heap.size w5 (w5.alloc (.cells #[.int .i64 d.kind, .string d.cons, .slice ta d.text.length tc, .slice va d.kids.length vc] 25)) := (Below.refl _ _).alloc (Nat.le_refl _) _
  have hsal : (w5.alloc (.cells #[.int .i64 d.kind, .string d.cons, .slice ta d.text.length tc, .slice va d.kids.length vc] 25)).heap.size = w5.heap.size + 1 := by simp
  have hk : ∀ b, (B ≤ b ∧ b < w5.heap.size) → (w5.alloc (.cells #[.int .i64 d.kind, .string d.cons, .slice ta d.text.length tc, .slice va d.kids.length vc] 25)).heap[b]? = w5.heap[b]? := fun b hb => hal.block b hb.2
  have hcx : Cx f B (w5.alloc (.cells #[.int .i64 d.kind, .string d.cons, .slice ta d.text.length tc, .slice va d.kids.length vc] 25)) (.slice (some ⟨w5.heap.size, 0, none⟩) 1 1) ([] ++ [d]) ([] ++ [.int .i64 d.kind, .string d.cons, .slice ta d.text.length tc, .slice va d.kids.length vc]) := Cx.snoc (Cx.nil f B _ _) ⟨h1.keep hk, h2.keep hk⟩ (fun b hb => ⟨hb.1, by omega, fun e => by simp [Value.ownBlock] at e; omega⟩) hvc
  obtain ⟨a, c, hv, _, hm⟩ := hcx.tin (row_one _ _ _ _ _ _ hB) (by simp)
  cases hv
  exact hm
set_option maxRecDepth 100000 in
set_option maxHeartbeats 16000000 in
theorem term_step (R : Nat) (s : ByteArray) (hm : s.size ≤ 65536) (f : Nat) (HT : ∀ f', f' ≤ f → ∀ p m w, RdAt w R s p → p ≤ s.size → 2 * (s.size - p) < f' → m ≤ 202 → TCalls R s f' p m w) (p m : Nat) (w : World) (h : RdAt w R s p) (hp : p ≤ s.size) (hfu : 2 * (s.size - p) < f + 1) (hm2 : m ≤ 202) : TCalls R s (f + 1) p m w := by
  unfold TCalls
  have hR := h.lt
  obtain ⟨w1, hw1⟩ : ∃ w1, w.alloc (.cells #[.int .i64 0, .string ⟨#[]⟩, .slice none 0 0, .slice none 0 0] 25) = w1 := ⟨_, rfl⟩
  have hB1 : Below w.heap.size w w1 := by rw [← hw1]; exact (Below.refl _ _).alloc (Nat.le_refl _) _
  have s1 : w1.heap.size = w.heap.size + 1 := by rw [← hw1]; simp
  have h1 : RdAt w1 R s p := h.below hB1 hR
  have HRC : Hid (∀ W, w1.grownBy W (some R) → ∀ (j : Nat) v, (#[.int .i64 0, .string ⟨#[]⟩, .slice none 0 0, .slice none 0 0] : Array Value)[j]? = some v → W.cell? ⟨w.heap.size, j, none⟩ = some v ∧ W.frozen? ⟨w.heap.size, j, none⟩ = false) := fun W hg => by rw [← hw1] at hg; exact res_cells hR hg
  have HGF : Hid (∀ W, w1.grownBy W (some R) → w.grownBy W (some R)) := fun W hg => by rw [← hw1] at hg; exact grown_from hg
  have HSZ : Hid (∀ W, w1.grownBy W (some R) → w.heap.size + 1 ≤ W.heap.size) := fun W hg => by have := hg.size; omega
  have HM : Hid _ := hm
  have HHR : Hid _ := hR
  obtain ⟨T, hTT⟩ : ∃ T, rt s (f + 1) p m = T := ⟨_, rfl⟩
  rw [hTT]
  rw [rt] at hTT
  obtain ⟨k, hk⟩ : ∃ k, skp s p = k := ⟨_, rfl⟩
  have hkp := skp_ge s p
  have hks := skp_le s p hp
  have hkk := skp_skp s p
  have hN := next_any R s p w1 h1 hp hm
  unfold rnext at hN
  rw [hk] at hkp hks hkk hN
  simp only [hk] at hTT
  have hk65 : k ≤ 65536 := by omega
  have hk65I : (k : Int) ≤ 65536 := by omega
  have hmI : (m : Int) ≤ 202 := by omega
  clear h hB1 h1 s1
  by_cases hqs : s.size ≤ k
  · rw [if_pos hqs] at hN hTT
    have HP : Hid (T = .bad k 14) := hTT.symm
    have HN : Hid _ := fun (_ : Unit) => hN
    clear hN hTT hqs hk hkp hks hkk HT hR
    go_enter Tryd.func51, Tryd.ntmps51
    go_wp2_with (go_at_call 66; refine (HN.out ()).mono ?_)
    first | rintro e w3 rfl g3 | rintro e w3 ⟨rfl, g3⟩
    have HGG : Hid _ := HGF.out _ g3
    clear g3
    simp only [FE]
    go_wp2
    refine ⟨rfl, ?_⟩
    rw [HP.out]
    exact ⟨rfl, HGG.out⟩
  rw [if_neg hqs] at hN hTT
  have hlt : k < s.size := by omega
  have hbl := bt_lt s k
  have HSG : Hid (∀ W, RdAt W R s k → _) := fun W hW => sign_any R s k m W hW hk65
  have HTT : Hid _ := HT
  have HFU : Hid (2 * (s.size - k) < f + 1 ∧ k < s.size) := ⟨by omega, hlt⟩
  by_cases h34 : bt s k = 34
  · rw [if_pos h34] at hTT
    rw [h34] at hN
    have hQ := fun (W : World) (hW : RdAt W R s k) => quoted_any R s k m W hW hks hm
    have HN : Hid _ := fun (_ : Unit) => hN
    cases hr : rquo s k m with
    | bad q c =>
      rw [hr] at hTT
      simp only [hr] at hQ
      have HP : Hid (T = .bad q c) := hTT.symm
      have HQ : Hid _ := hQ
      clear hN hTT hqs hk hkp hks hkk HT hR hr hQ h34 hbl
      go_enter Tryd.func51, Tryd.ntmps51
      go_wp2_with (go_at_call 66; refine (HN.out ()).mono ?_)
      first | rintro e w3 rfl h3 g3 | rintro e w3 ⟨rfl, h3, g3⟩
      have HR3 : Hid _ := h3
      have HG3 : Hid _ := g3
      clear h3 g3
      go_wp2_with (go_at_call 67; refine (HQ.out _ HR3.out).mono ?_)
      first | rintro e w4 rfl g4 | rintro e w4 ⟨rfl, g4⟩
      have HGG : Hid _ := HGF.out _ (grown_tr HG3.out g4)
      clear g4
      simp only [FE]
      go_wp2
      refine ⟨rfl, ?_⟩
      rw [HP.out]
      exact ⟨rfl, HGG.out⟩
    | ok t q =>
      rw [hr] at hTT
      simp only [hr] at hQ
      have HP : Hid (T = .ok (.mk 2 ⟨#[]⟩ (unNums t) []) q) := hTT.symm
      have HQ : Hid _ := hQ
      have HTL : Hid (∀ n ∈ t, n < 256) := rquo_lt hr
      have HLL : Hid (t.length ≤ 65536) := by have := rquo_len hr; show _ ≤ _; omega
      clear hN hTT hqs hk hkp hks hkk HT hR hr hQ h34 hbl
      go_enter Tryd.func51, Tryd.ntmps51
      go_wp2_with (go_at_call 66; refine (HN.out ()).mono ?_)
      first | rintro e w3 rfl h3 g3 | rintro e w3 ⟨rfl, h3, g3⟩
      have HR3 : Hid _ := h3
      have HG3 : Hid _ := g3
      clear h3 g3
      go_wp2_with (go_at_call 67; refine (HQ.out _ HR3.out).mono ?_)
      first | rintro e w4 v rfl hrow h4 g4 | rintro e w4 ⟨⟨v, rfl, hrow⟩, h4, g4⟩
      have hg14 := grown_tr HG3.out g4
      obtain ⟨x0, f0⟩ := HRC.out w4 hg14 0 _ rfl
      obtain ⟨x1, f1⟩ := HRC.out w4 hg14 1 _ rfl
      obtain ⟨x2, f2⟩ := HRC.out w4 hg14 2 _ rfl
      obtain ⟨x3, f3⟩ := HRC.out w4 hg14 3 _ rfl
      obtain ⟨va, vc, rfl⟩ := row_slice hrow
      have hul : (unNums t).length = t.length := by simp [unNums]
      have htx := (row_txx hrow HTL.out (by have := HLL.out; omega)).wide (S' := fun b => w.heap.size + 1 ≤ b ∧ b < w4.heap.size) (fun b hb => ⟨by have := HSZ.out _ HG3.out; omega, hb.2⟩)
      have hfin := TPost.told (f := f + 1) (d := .mk 2 ⟨#[]⟩ (unNums t) []) (va := none) (vc := 0) HHR.out h4 (HGF.out _ hg14) (Nat.le_refl _) (mix_nil _ _ _ _) htx
      have HFIN : Hid (TPost R s (f + 1) w (.ok (.mk 2 ⟨#[]⟩ (unNums t) []) q) (.returned (.agg #[.int .i64 2, .string ⟨#[]⟩, .slice va t.length vc, .slice none 0 0])) (put4 w4 w.heap.size (.int .i64 2) (.string ⟨#[]⟩) (.slice va t.length vc) (.slice none 0 0))) := by
        show TPost _ _ _ _ _ _ _
        rw [← hul]; exact hfin
      clear hrow h4 g4 hg14 htx hfin hul
      go_wp2
      refine bodyPost_ret (v := .agg #[.int .i64 2, .string ⟨#[]⟩, .slice va t.length vc, .slice none 0 0]) (by simp [results, Tryd.results51, go_sem, x0, x1, x2, x3]) rfl ?_
      rw [HP.out]
      exact HFIN.out
  have b34 : ((bt s k : Int) == 34) = false := by simp; omega
  rw [if_neg h34] at hTT
  by_cases h91 : bt s k = 91
  · rw [if_pos h91] at hTT
    rw [h91] at hN b34
    have HN : Hid _ := fun (_ : Unit) => hN
    unfold rsign at HSG
    by_cases h2 : 200 < m
    · rw [if_pos h2] at hTT
      simp only [if_pos h2] at HSG
      have HP : Hid (T = .bad k 2) := hTT.symm
      clear hN hTT hqs hk hkp hks hkk HT hR h34 h91 h2 hbl
      go_enter Tryd.func51, Tryd.ntmps51
      go_wp2_with (go_at_call 66; refine (HN.out ()).mono ?_)
      first | rintro e w3 rfl h3 g3 | rintro e w3 ⟨rfl, h3, g3⟩
      have HR3 : Hid _ := h3
      have HG3 : Hid _ := g3
      clear h3 g3
      go_wp2_with (go_at_call 68; refine (HSG.out _ HR3.out).mono ?_)
      first | rintro e w4 rfl g4 | rintro e w4 ⟨rfl, g4⟩
      have HGG : Hid _ := HGF.out _ (grown_tr HG3.out g4)
      clear g4
      simp only [FE]
      go_wp2
      refine ⟨rfl, ?_⟩
      rw [HP.out]
      exact ⟨rfl, HGG.out⟩
    rw [if_neg h2] at hTT
    simp only [if_neg h2] at HSG
    obtain ⟨k2, hk2⟩ : ∃ k2, skp s (k + 1) = k2 := ⟨_, rfl⟩
    have hk2p := skp_ge s (k + 1)
    have hk2s := skp_le s (k + 1) (by omega)
    have hN2 := fun (W : World) (hW : RdAt W R s (k + 1)) => next_any R s (k + 1) W hW (by omega) hm
    unfold rnext at hN2
    simp only [hk2] at hN2 hTT hk2p hk2s
    have hk265 : (k2 : Int) ≤ 65536 := by omega
    by_cases hqs2 : s.size ≤ k2
    · rw [if_pos hqs2] at hTT
      simp only [if_pos hqs2] at hN2
      have HP : Hid (T = .bad k2 14) := hTT.symm
      have HN2 : Hid _ := hN2
      clear hN hTT hqs hk hkp hks hkk HT hR h34 h91 h2 hbl hN2 hk2 hk2p hk2s hqs2
      go_enter Tryd.func51, Tryd.ntmps51
      go_wp2_with (go_at_call 66; refine (HN.out ()).mono ?_)
      first | rintro e w3 rfl h3 g3 | rintro e w3 ⟨rfl, h3, g3⟩
      have HR3 : Hid _ := h3
      have HG3 : Hid _ := g3
      clear h3 g3
      go_wp2_with (go_at_call 68; refine (HSG.out _ HR3.out).mono ?_)
      first | rintro e w4 rfl h4 g4 | rintro e w4 ⟨rfl, h4, g4⟩
      have HR4 : Hid _ := h4
      have HG4 : Hid _ := grown_tr HG3.out g4
      clear h4 g4
      go_wp2_with (go_at_call 66; refine (HN2.out _ HR4.out).mono ?_)
      first | rintro e w5 rfl g5 | rintro e w5 ⟨rfl, g5⟩
      have HGG : Hid _ := HGF.out _ (grown_tr HG4.out g5)
      clear g5
      simp only [FE]
      go_wp2
      refine ⟨rfl, ?_⟩
      rw [HP.out]
      exact ⟨rfl, HGG.out⟩
    rw [if_neg hqs2] at hTT
    simp only [if_neg hqs2] at hN2
    by_cases h93 : bt s k2 = 93
    · rw [if_pos h93] at hTT
      rw [h93] at hN2
      have HP : Hid (T = .ok (.mk 3 ⟨#[]⟩ [] []) (k2 + 1)) := hTT.symm
      have HN2 : Hid _ := hN2
      clear hN hTT hqs hk hkp hks hkk HT hR h34 h91 h2 hbl hN2 hk2 hk2p hk2s hqs2 h93
      go_enter Tryd.func51, Tryd.ntmps51
      go_wp2_with (go_at_call 66; refine (HN.out ()).mono ?_)
      first | rintro e w3 rfl h3 g3 | rintro e w3 ⟨rfl, h3, g3⟩
      have HR3 : Hid _ := h3
      have HG3 : Hid _ := g3
      clear h3 g3
      go_wp2_with (go_at_call 68; refine (HSG.out _ HR3.out).mono ?_)
      first | rintro e w4 rfl h4 g4 | rintro e w4 ⟨rfl, h4, g4⟩
      have HR4 : Hid _ := h4
      have HG4 : Hid _ := grown_tr HG3.out g4
      clear h4 g4
      go_wp2_with (go_at_call 66; refine (HN2.out _ HR4.out).mono ?_)
      first | rintro e w5 rfl h5 g5 | rintro e w5 ⟨rfl, h5, g5⟩
      have q1 := h5.at'
      have q2 := h5.fz
      have hg15 := grown_tr (grown_tr HG4.out g5) (grown_set w5 R 1 (.int .i64 ((k2 : Int) + 1)))
      obtain ⟨x0, f0⟩ := HRC.out _ hg15 0 _ rfl
      obtain ⟨x1, f1⟩ := HRC.out _ hg15 1 _ rfl
      obtain ⟨x2, f2⟩ := HRC.out _ hg15 2 _ rfl
      obtain ⟨x3, f3⟩ := HRC.out _ hg15 3 _ rfl
      have h5p := h5.put (k2 + 1)
      push_cast at h5p
      have HFIN : Hid _ := TPost.told (f := f + 1) (d := .mk 3 ⟨#[]⟩ [] []) (va := none) (vc := 0) (ta := none) (tc := 0) HHR.out h5p (HGF.out _ hg15) (Nat.le_refl _) (mix_nil _ _ _ _) (txx_nil _ _)
      clear h5 g5 hg15 h5p
      go_wp2
      refine bodyPost_ret (v := .agg #[.int .i64 3, .string ⟨#[]⟩, .slice none 0 0, .slice none 0 0]) (by simp [results, Tryd.results51, go_sem, x0, x1, x2, x3]) rfl ?_
      rw [HP.out]
      exact HFIN.out
    · rw [if_neg h93] at hTT
      have b93 : ((bt s k2 : Int) == 93) = false := by simp; omega
      have b93' : ¬ (bt s k2 : Int) = 93 := by omega
      have hKD := fun (W : World) (hW : RdAt W R s k2) => kids_step R s hm f HT k2 (m + 1) 93 W hW hk2s (by omega) (by omega)
      have HP0 : Hid (T = match rkids s f k2 (m + 1) 93 with | .bad q c => .bad q c | .ok l q => .ok (.mk 3 ⟨#[]⟩ [] l) q) := by
        show _ = _
        rw [← hTT]
        unfold rkids
        cases rt s f k2 (m + 1) <;> rfl
      push_cast at hKD
      have HN2 : Hid _ := hN2
      generalize rkids s f k2 (m + 1) 93 = KK at hKD HP0
      clear hN hTT hqs hk hkp hks hkk HT hR h34 h91 h2 hbl hN2 hk2 hk2p hk2s hqs2 h93
      cases KK with
      | bad q c =>
        have HP : Hid (T = .bad q c) := HP0.out
        have HKD : Hid _ := hKD
        clear hKD HP0
        go_enter Tryd.func51, Tryd.ntmps51
        go_wp2_with (go_at_call 66; refine (HN.out ()).mono ?_)
        first | rintro e w3 rfl h3 g3 | rintro e w3 ⟨rfl, h3, g3⟩
        have HR3 : Hid _ := h3
        have HG3 : Hid _ := g3
        clear h3 g3
        go_wp2_with (go_at_call 68; refine (HSG.out _ HR3.out).mono ?_)
        first | rintro e w4 rfl h4 g4 | rintro e w4 ⟨rfl, h4, g4⟩
        have HR4 : Hid _ := h4
        have HG4 : Hid _ := grown_tr HG3.out g4
        clear h4 g4
        go_wp2_with (go_at_call 66; refine (HN2.out _ HR4.out).mono ?_)
        first | rintro e w5 rfl h5 g5 | rintro e w5 ⟨rfl, h5, g5⟩
        have HR5 : Hid _ := h5
        have HG5 : Hid _ := grown_tr HG4.out g5
        clear h5 g5
        go_wp2_with (go_at_call 69; refine (HKD.out _ HR5.out).mono ?_)
        first | rintro e w6 rfl g6 | rintro e w6 ⟨rfl, g6⟩
        have HGG : Hid _ := HGF.out _ (grown_tr HG5.out g6)
        clear g6
        simp only [FE]
        go_wp2
        refine ⟨rfl, ?_⟩
        rw [HP.out]
        exact ⟨rfl, HGG.out⟩
      | ok l q =>
        have HP : Hid (T = .ok (.mk 3 ⟨#[]⟩ [] l) q) := HP0.out
        have HKD : Hid _ := hKD
        clear hKD HP0
        go_enter Tryd.func51, Tryd.ntmps51
        go_wp2_with (go_at_call 66; refine (HN.out ()).mono ?_)
        first | rintro e w3 rfl h3 g3 | rintro e w3 ⟨rfl, h3, g3⟩
        have HR3 : Hid _ := h3
        have HG3 : Hid _ := g3
        clear h3 g3
        go_wp2_with (go_at_call 68; refine (HSG.out _ HR3.out).mono ?_)
        first | rintro e w4 rfl h4 g4 | rintro e w4 ⟨rfl, h4, g4⟩
        have HR4 : Hid _ := h4
        have HG4 : Hid _ := grown_tr HG3.out g4
        clear h4 g4
        go_wp2_with (go_at_call 66; refine (HN2.out _ HR4.out).mono ?_)
        first | rintro e w5 rfl h5 g5 | rintro e w5 ⟨rfl, h5, g5⟩
        have HR5 : Hid _ := h5
        have HG5 : Hid _ := grown_tr HG4.out g5
        clear h5 g5
        go_wp2_with (go_at_call 69; refine (HKD.out _ HR5.out).mono ?_)
        first | rintro e w6 v xs rfl hrow hcx hll h6 g6 | rintro e w6 ⟨⟨v, xs, rfl, hrow, hcx, hll⟩, h6, g6⟩
        have hg16 := grown_tr HG5.out g6
        obtain ⟨x0, f0⟩ := HRC.out w6 hg16 0 _ rfl
        obtain ⟨x1, f1⟩ := HRC.out w6 hg16 1 _ rfl
        obtain ⟨x2, f2⟩ := HRC.out w6 hg16 2 _ rfl
        obtain ⟨x3, f3⟩ := HRC.out w6 hg16 3 _ rfl
        obtain ⟨la, lc, rfl, hlc, htin⟩ := hcx.tin hrow (by omega)
        have HFIN : Hid _ := TPost.told (f := f + 1) (d := .mk 3 ⟨#[]⟩ [] l) (ta := none) (tc := 0) HHR.out h6 (HGF.out _ hg16) hlc (htin.wide (fun b hb => ⟨by have := HSZ.out _ HG5.out; omega, hb.2⟩)) (txx_nil _ _)
        clear h6 g6 hg16 hrow hcx hlc htin
        go_wp2
        refine bodyPost_ret (v := .agg #[.int .i64 3, .string ⟨#[]⟩, .slice none 0 0, .slice la l.length lc]) (by simp [results, Tryd.results51, go_sem, x0, x1, x2, x3]) rfl ?_
        rw [HP.out]
        exact HFIN.out
  have b91 : ((bt s k : Int) == 91) = false := by simp; omega
  rw [if_neg h91] at hTT
  by_cases h45 : bt s k = 45
  · rw [if_pos h45] at hTT
    rw [h45] at hN b34 b91
    have HN : Hid _ := fun (_ : Unit) => hN
    unfold rsign at HSG
    by_cases h2 : 200 < m
    · rw [if_pos h2] at hTT
      simp only [if_pos h2] at HSG
      have HP : Hid (T = .bad k 2) := hTT.symm
      clear hN hTT hqs hk hkp hks hkk HT hR h34 h91 h45 h2 hbl
      go_enter Tryd.func51, Tryd.ntmps51
      go_wp2_with (go_at_call 66; refine (HN.out ()).mono ?_)
      first | rintro e w3 rfl h3 g3 | rintro e w3 ⟨rfl, h3, g3⟩
      have HR3 : Hid _ := h3
      have HG3 : Hid _ := g3
      clear h3 g3
      go_wp2_with (go_at_call 68; refine (HSG.out _ HR3.out).mono ?_)
      first | rintro e w4 rfl g4 | rintro e w4 ⟨rfl, g4⟩
      have HGG : Hid _ := HGF.out _ (grown_tr HG3.out g4)
      clear g4
      simp only [FE]
      go_wp2
      refine ⟨rfl, ?_⟩
      rw [HP.out]
      exact ⟨rfl, HGG.out⟩
    rw [if_neg h2] at hTT
    simp only [if_neg h2] at HSG
    have HP : Hid (T = .ok (.mk 4 ⟨#[]⟩ [] []) (k + 1)) := hTT.symm
    clear hN hTT hqs hk hkp hks hkk HT hR h34 h91 h45 h2 hbl
    go_enter Tryd.func51, Tryd.ntmps51
    go_wp2_with (go_at_call 66; refine (HN.out ()).mono ?_)
    first | rintro e w3 rfl h3 g3 | rintro e w3 ⟨rfl, h3, g3⟩
    have HR3 : Hid _ := h3
    have HG3 : Hid _ := g3
    clear h3 g3
    go_wp2_with (go_at_call 68; refine (HSG.out _ HR3.out).mono ?_)
    first | rintro e w4 rfl h4 g4 | rintro e w4 ⟨rfl, h4, g4⟩
    have HR4 : Hid _ := h4
    have HG4 : Hid _ := grown_tr HG3.out g4
    clear h4 g4
    obtain ⟨x0, f0⟩ := HRC.out w4 HG4.out 0 _ rfl
    obtain ⟨x1, f1⟩ := HRC.out w4 HG4.out 1 _ rfl
    obtain ⟨x2, f2⟩ := HRC.out w4 HG4.out 2 _ rfl
    obtain ⟨x3, f3⟩ := HRC.out w4 HG4.out 3 _ rfl
    have HFIN : Hid _ := TPost.told (f := f + 1) (d := .mk 4 ⟨#[]⟩ [] []) (va := none) (vc := 0) (ta := none) (tc := 0) HHR.out HR4.out (HGF.out _ HG4.out) (Nat.le_refl _) (mix_nil _ _ _ _) (txx_nil _ _)
    go_wp2
    refine bodyPost_ret (v := .agg #[.int .i64 4, .string ⟨#[]⟩, .slice none 0 0, .slice none 0 0]) (by simp [results, Tryd.results51, go_sem, x0, x1, x2, x3]) rfl ?_
    rw [HP.out]
    exact HFIN.out
  have b45 : ((bt s k : Int) == 45) = false := by simp; omega
  rw [if_neg h45] at hTT
  by_cases h63 : bt s k = 63
  · rw [if_pos h63] at hTT
    rw [h63] at hN b34 b91 b45
    have HN : Hid _ := fun (_ : Unit) => hN
    unfold rsign at HSG
    by_cases h2 : 200 < m
    · rw [if_pos h2] at hTT
      simp only [if_pos h2] at HSG
      have HP : Hid (T = .bad k 2) := hTT.symm
      clear hN hTT hqs hk hkp hks hkk HT hR h34 h91 h45 h63 h2 hbl
      go_enter Tryd.func51, Tryd.ntmps51
      go_wp2_with (go_at_call 66; refine (HN.out ()).mono ?_)
      first | rintro e w3 rfl h3 g3 | rintro e w3 ⟨rfl, h3, g3⟩
      have HR3 : Hid _ := h3
      have HG3 : Hid _ := g3
      clear h3 g3
      go_wp2_with (go_at_call 68; refine (HSG.out _ HR3.out).mono ?_)
      first | rintro e w4 rfl g4 | rintro e w4 ⟨rfl, g4⟩
      have HGG : Hid _ := HGF.out _ (grown_tr HG3.out g4)
      clear g4
      simp only [FE]
      go_wp2
      refine ⟨rfl, ?_⟩
      rw [HP.out]
      exact ⟨rfl, HGG.out⟩
    rw [if_neg h2] at hTT
    simp only [if_neg h2] at HSG
    have hTD := fun (W : World) (hW : RdAt W R s (k + 1)) => HT f (Nat.le_refl _) (k + 1) (m + 1) W hW (by omega) (by omega) (by omega)
    unfold TCalls at hTD
    push_cast at hTD
    cases hr : rt s f (k + 1) (m + 1) with
    | bad q c =>
      rw [hr] at hTT
      simp only [hr] at hTD
      have HP : Hid (T = .bad q c) := hTT.symm
      have HTD : Hid _ := hTD
      clear hN hTT hqs hk hkp hks hkk HT hR h34 h91 h45 h63 h2 hbl hr hTD
      go_enter Tryd.func51, Tryd.ntmps51
      go_wp2_with (go_at_call 66; refine (HN.out ()).mono ?_)
      first | rintro e w3 rfl h3 g3 | rintro e w3 ⟨rfl, h3, g3⟩
      have HR3 : Hid _ := h3
      have HG3 : Hid _ := g3
      clear h3 g3
      go_wp2_with (go_at_call 68; refine (HSG.out _ HR3.out).mono ?_)
      first | rintro e w4 rfl h4 g4 | rintro e w4 ⟨rfl, h4, g4⟩
      have HR4 : Hid _ := h4
      have HG4 : Hid _ := grown_tr HG3.out g4
      clear h4 g4
      go_wp2_with (go_at_call 51; refine (HTD.out _ HR4.out).mono ?_)
      first | rintro e w5 rfl g5 | rintro e w5 ⟨rfl, g5⟩
      have HGG : Hid _ := HGF.out _ (grown_tr HG4.out g5)
      clear g5
      simp only [FE]
      go_wp2
      refine ⟨rfl, ?_⟩
      rw [HP.out]
      exact ⟨rfl, HGG.out⟩
    | ok d q =>
      rw [hr] at hTT
      simp only [hr] at hTD
      have HP : Hid (T = .ok (.mk 5 ⟨#[]⟩ [] [d]) q) := hTT.symm
      have HTD : Hid _ := hTD
      clear hN hTT hqs hk hkp hks hkk HT hR h34 h91 h45 h63 h2 hbl hr hTD
      go_enter Tryd.func51, Tryd.ntmps51
      go_wp2_with (go_at_call 66; refine (HN.out ()).mono ?_)
      first | rintro e w3 rfl h3 g3 | rintro e w3 ⟨rfl, h3, g3⟩
      have HR3 : Hid _ := h3
      have HG3 : Hid _ := g3
      clear h3 g3
      go_wp2_with (go_at_call 68; refine (HSG.out _ HR3.out).mono ?_)
      first | rintro e w4 rfl h4 g4 | rintro e w4 ⟨rfl, h4, g4⟩
      have HR4 : Hid _ := h4
      have HG4 : Hid _ := grown_tr HG3.out g4
      clear h4 g4
      go_wp2_with (go_at_call 51; refine (HTD.out _ HR4.out).mono ?_)
      first | rintro e w5 ta tc va vc rfl hvc hmx htx h5 g5 | rintro e w5 ⟨⟨ta, tc, va, vc, rfl, hvc, hmx, htx⟩, h5, g5⟩
      have hal : Below w5.heap.size w5 (w5.alloc (.cells #[.int .i64 d.kind, .string d.cons, .slice ta d.text.length tc, .slice va d.kids.length vc] 25)) := (Below.refl _ _).alloc (Nat.le_refl _) _
      have hg15 := grown_tr (grown_tr HG4.out g5) (grown_of_below hal (some R))
      obtain ⟨x0, f0⟩ := HRC.out _ hg15 0 _ rfl
      obtain ⟨x1, f1⟩ := HRC.out _ hg15 1 _ rfl
      obtain ⟨x2, f2⟩ := HRC.out _ hg15 2 _ rfl
      obtain ⟨x3, f3⟩ := HRC.out _ hg15 3 _ rfl
      have hwd : ∀ b, (w4.heap.size ≤ b ∧ b < w5.heap.size) → w.heap.size + 1 ≤ b ∧ b < w5.heap.size := fun b hb => ⟨by have := HSZ.out _ HG4.out; omega, hb.2⟩
      have hmo := mix_one (B := w.heap.size + 1) (by have := HSZ.out _ HG4.out; have := g5.size; omega) (hmx.wide hwd) (htx.wide hwd) hvc
      have HFIN : Hid _ := TPost.told (f := f + 1) (d := .mk 5 ⟨#[]⟩ [] [d]) (ta := none) (tc := 0) (va := some ⟨w5.heap.size, 0, none⟩) (vc := 1) HHR.out (h5.below hal h5.lt) (HGF.out _ hg15) (Nat.le_refl _) hmo (txx_nil _ _)
      clear h5 g5 hg15 hal hmx htx hwd hmo hvc
      go_wp2
      refine bodyPost_ret (v := .agg #[.int .i64 5, .string ⟨#[]⟩, .slice none 0 0, .slice (some ⟨w5.heap.size, 0, none⟩) 1 1]) (by simp [results, Tryd.results51, go_sem, x0, x1, x2, x3]) rfl ?_
      rw [HP.out]
      exact HFIN.out
  have b63 : ((bt s k : Int) == 63) = false := by simp; omega
  rw [if_neg h63] at hTT
  have HN : Hid _ := fun (_ : Unit) => hN
  have hNM := fun (W : World) (hW : RdAt W R s k) => name_any R s k m W hW hlt hm
  cases hr : rname s k m with
  | bad q c =>
    rw [hr] at hTT
    simp only [hr] at hNM
    have HP : Hid (T = .bad q c) := hTT.symm
    have HNM : Hid _ := hNM
    clear hN hTT hqs hk hkp hks hkk HT hR h34 h91 h45 h63 hbl hr hNM
    go_enter Tryd.func51, Tryd.ntmps51
    go_wp2_with (go_at_call 66; refine (HN.out ()).mono ?_)
    first | rintro e w3 rfl h3 g3 | rintro e w3 ⟨rfl, h3, g3⟩
    have HR3 : Hid _ := h3
    have HG3 : Hid _ := g3
    clear h3 g3
    go_wp2_with (go_at_call 70; refine (HNM.out _ HR3.out).mono ?_)
    first | rintro e w4 rfl g4 | rintro e w4 ⟨rfl, g4⟩
    have HGG : Hid _ := HGF.out _ (grown_tr HG3.out g4)
    clear g4
    simp only [FE]
    go_wp2
    refine ⟨rfl, ?_⟩
    rw [HP.out]
    exact ⟨rfl, HGG.out⟩
  | ok cn q =>
    rw [hr] at hTT
    simp only [hr] at hNM
    have hpos := rname_pos hr hlt
    obtain ⟨k3, hk3⟩ : ∃ k3, skp s q = k3 := ⟨_, rfl⟩
    have hk3p := skp_ge s q
    have hk3s := skp_le s q hpos.2
    have hSK := fun (W : World) (hW : RdAt W R s q) => skip_any R s q W hW hpos.2 hm
    simp only [hk3] at hTT hk3p hk3s hSK
    have HNM : Hid _ := hNM
    have HSK : Hid _ := hSK
    have hk365 : (k3 : Int) ≤ 65536 := by omega
    have hk3I : (k3 : Int) ≤ (s.size : Int) := by omega
    have hPX := fun (W : World) => prefix_one (s.extract k3 s.size) W
    have hdec : decide (0 < (s.extract k3 s.size).size ∧ bt (s.extract k3 s.size) 0 = 40) = decide (k3 < s.size ∧ bt s k3 = 40) := by
      rw [decide_eq_decide]
      have e1 : (s.extract k3 s.size).size = s.size - k3 := by simp
      rw [e1]
      by_cases hh : k3 < s.size
      · rw [bt_extract]; constructor <;> (intro ⟨_, h⟩; exact ⟨by omega, h⟩)
      · constructor <;> (intro ⟨h, _⟩; omega)
    simp only [hdec] at hPX
    by_cases h40 : k3 < s.size ∧ bt s k3 = 40
    · rw [if_pos h40] at hTT
      simp only [decide_eq_true h40] at hPX
      have HPX : Hid _ := hPX
      have hKD := fun (W : World) (hW : RdAt W R s (k3 + 1)) => kids_step R s hm f HT (k3 + 1) (m + 1) 41 W hW (by omega) (by
        have : m ≤ 200 := by
          unfold rname at hr
          split at hr
          · cases hr
          split at hr
          · cases hr
          split at hr
          · cases hr
          omega
        omega) (by omega)
      have HP0 : Hid (T = match rkids s f (k3 + 1) (m + 1) 41 with | .bad q c => .bad q c | .ok l q => .ok (.mk 1 cn [] l) q) := by
        show _ = _
        rw [← hTT]
        unfold rkids
        cases rt s f (k3 + 1) (m + 1) <;> rfl
      push_cast at hKD
      generalize rkids s f (k3 + 1) (m + 1) 41 = KK at hKD HP0
      clear hN hTT hqs hk hkp hks hkk HT hR h34 h91 h45 h63 hbl hr hNM hpos hk3 hk3p hk3s hSK hPX hdec h40
      cases KK with
      | bad q' c' =>
        have HP : Hid (T = .bad q' c') := HP0.out
        have HKD : Hid _ := hKD
        clear hKD HP0
        go_enter Tryd.func51, Tryd.ntmps51
        go_wp2_with (go_at_call 66; refine (HN.out ()).mono ?_)
        first | rintro e w3 rfl h3 g3 | rintro e w3 ⟨rfl, h3, g3⟩
        have HR3 : Hid _ := h3
        have HG3 : Hid _ := g3
        clear h3 g3
        go_wp2_with (go_at_call 70; refine (HNM.out _ HR3.out).mono ?_)
        first | rintro e w4 rfl h4 g4 | rintro e w4 ⟨rfl, h4, g4⟩
        have HG4 : Hid _ := grown_tr HG3.out g4
        have hal : Below w4.heap.size w4 (w4.alloc (.cells #[.int .i64 1, .string cn, .slice none 0 0, .slice none 0 0] 25)) := (Below.refl _ _).alloc (Nat.le_refl _) _
        have HR4 : Hid _ := h4.below hal h4.lt
        have HG5 : Hid (w1.grownBy (w4.alloc (.cells #[.int .i64 1, .string cn, .slice none 0 0, .slice none 0 0] 25)) (some R)) := grown_tr HG4.out (grown_of_below hal _)
        have HBC : Hid (∀ W, (w4.alloc (.cells #[.int .i64 1, .string cn, .slice none 0 0, .slice none 0 0] 25)).grownBy W (some R) → ∀ (j : Nat) v, (#[.int .i64 1, .string cn, .slice none 0 0, .slice none 0 0] : Array Value)[j]? = some v → W.cell? ⟨w4.heap.size, j, none⟩ = some v ∧ W.frozen? ⟨w4.heap.size, j, none⟩ = false) := fun W hg => res_cells (by have := HSZ.out _ HG4.out; have := HHR.out; omega) hg
        clear h4 g4 hal
        go_wp2_with (go_at_call 52; refine (HSK.out _ HR4.out).mono ?_)
        first | rintro e w6 rfl h6 g6 | rintro e w6 ⟨rfl, h6, g6⟩
        have HR6 : Hid _ := h6
        have HB6 : Hid _ := g6
        have HG6 : Hid _ := grown_tr HG5.out g6
        clear h6 g6
        have q1 := HR6.out.at'
        have q0 := HR6.out.text
        have q2 := HR6.out.fz
        go_wp2
        go_quiet ((go_at_call 71; exact Calls.quiet_of_same (HPX.out _)))
        have h7 : RdAt ((w6.drewN nq).setCell ⟨R, 1, none⟩ (.int .i64 ((k3 : Int) + 1))) R s (k3 + 1) := by
          have := (HR6.out.drewN nq).put (k3 + 1)
          push_cast at this; exact this
        have g7 : w6.grownBy ((w6.drewN nq).setCell ⟨R, 1, none⟩ (.int .i64 ((k3 : Int) + 1))) (some R) := grown_tr (grown_of_below (Below.of_drewN w6 nq) _) (grown_set _ _ _ _)
        have HR7 : Hid _ := h7
        have HG7 : Hid _ := grown_tr HG6.out g7
        clear h7 g7
        go_wp2_with (go_at_call 69; refine (HKD.out _ HR7.out).mono ?_)
        first | rintro e w8 rfl g8 | rintro e w8 ⟨rfl, g8⟩
        have HGG : Hid _ := HGF.out _ (grown_tr HG7.out g8)
        clear g8
        simp only [FE]
        go_wp2
        refine ⟨rfl, ?_⟩
        rw [HP.out]
        exact ⟨rfl, HGG.out⟩
      | ok l q' =>
        have HP : Hid (T = .ok (.mk 1 cn [] l) q') := HP0.out
        have HKD : Hid _ := hKD
        clear hKD HP0
        go_enter Tryd.func51, Tryd.ntmps51
        go_wp2_with (go_at_call 66; refine (HN.out ()).mono ?_)
        first | rintro e w3 rfl h3 g3 | rintro e w3 ⟨rfl, h3, g3⟩
        have HR3 : Hid _ := h3
        have HG3 : Hid _ := g3
        clear h3 g3
        go_wp2_with (go_at_call 70; refine (HNM.out _ HR3.out).mono ?_)
        first | rintro e w4 rfl h4 g4 | rintro e w4 ⟨rfl, h4, g4⟩
        have HG4 : Hid _ := grown_tr HG3.out g4
        have hal : Below w4.heap.size w4 (w4.alloc (.cells #[.int .i64 1, .string cn, .slice none 0 0, .slice none 0 0] 25)) := (Below.refl _ _).alloc (Nat.le_refl _) _
        have HR4 : Hid _ := h4.below hal h4.lt
        have HG5 : Hid (w1.grownBy (w4.alloc (.cells #[.int .i64 1, .string cn, .slice none 0 0, .slice none 0 0] 25)) (some R)) := grown_tr HG4.out (grown_of_below hal _)
        have HBC : Hid (∀ W, (w4.alloc (.cells #[.int .i64 1, .string cn, .slice none 0 0, .slice none 0 0] 25)).grownBy W (some R) → ∀ (j : Nat) v, (#[.int .i64 1, .string cn, .slice none 0 0, .slice none 0 0] : Array Value)[j]? = some v → W.cell? ⟨w4.heap.size, j, none⟩ = some v ∧ W.frozen? ⟨w4.heap.size, j, none⟩ = false) := fun W hg => res_cells (by have := HSZ.out _ HG4.out; have := HHR.out; omega) hg
        clear h4 g4 hal
        go_wp2_with (go_at_call 52; refine (HSK.out _ HR4.out).mono ?_)
        first | rintro e w6 rfl h6 g6 | rintro e w6 ⟨rfl, h6, g6⟩
        have HR6 : Hid _ := h6
        have HB6 : Hid _ := g6
        have HG6 : Hid _ := grown_tr HG5.out g6
        clear h6 g6
        have q1 := HR6.out.at'
        have q0 := HR6.out.text
        have q2 := HR6.out.fz
        go_wp2
        go_quiet ((go_at_call 71; exact Calls.quiet_of_same (HPX.out _)))
        have h7 : RdAt ((w6.drewN nq).setCell ⟨R, 1, none⟩ (.int .i64 ((k3 : Int) + 1))) R s (k3 + 1) := by
          have := (HR6.out.drewN nq).put (k3 + 1)
          push_cast at this; exact this
        have g7 : w6.grownBy ((w6.drewN nq).setCell ⟨R, 1, none⟩ (.int .i64 ((k3 : Int) + 1))) (some R) := grown_tr (grown_of_below (Below.of_drewN w6 nq) _) (grown_set _ _ _ _)
        have HR7 : Hid _ := h7
        have HG7 : Hid _ := grown_tr HG6.out g7
        have HB7 : Hid _ := grown_tr HB6.out g7
        clear h7 g7
        go_wp2_with (go_at_call 69; refine (HKD.out _ HR7.out).mono ?_)
        first | rintro e w8 v xs rfl hrow hcx hll h8 g8 | rintro e w8 ⟨⟨v, xs, rfl, hrow, hcx, hll⟩, h8, g8⟩
        have hg18 := grown_tr HG7.out g8
        obtain ⟨y0, z0⟩ := HBC.out w8 (grown_tr HB7.out g8) 0 _ rfl
        obtain ⟨y1, z1⟩ := HBC.out w8 (grown_tr HB7.out g8) 1 _ rfl
        obtain ⟨y2, z2⟩ := HBC.out w8 (grown_tr HB7.out g8) 2 _ rfl
        obtain ⟨y3, z3⟩ := HBC.out w8 (grown_tr HB7.out g8) 3 _ rfl
        obtain ⟨la, lc, rfl, hlc, htin⟩ := hcx.tin hrow (by omega)
        have hs7 : ((w6.drewN nq).setCell ⟨R, 1, none⟩ (.int .i64 ((k3 : Int) + 1))).heap.size = w6.heap.size := by simp [World.setCell]
        have hb46 : w4.heap.size + 1 ≤ w6.heap.size := by have := HB6.out.size; simpa using this
        have hw14 : w.heap.size + 1 ≤ w4.heap.size := HSZ.out _ HG4.out
        have hg9 := grown_set w8 w4.heap.size 3 (.slice la l.length lc)
        have hs9 : (w8.setCell ⟨w4.heap.size, 3, none⟩ (.slice la l.length lc)).heap.size = w8.heap.size := by simp [World.setCell]
        have h9 := h8.grown hg9 (by have := HHR.out; omega)
        have hg19 : w1.grownBy (w8.setCell ⟨w4.heap.size, 3, none⟩ (.slice la l.length lc)) (some R) := grown_fresh hg18 (by have := HG4.out.size; omega) _
        obtain ⟨x0, f0⟩ := HRC.out _ hg19 0 _ rfl
        obtain ⟨x1, f1⟩ := HRC.out _ hg19 1 _ rfl
        obtain ⟨x2, f2⟩ := HRC.out _ hg19 2 _ rfl
        obtain ⟨x3, f3⟩ := HRC.out _ hg19 3 _ rfl
        have HFIN : Hid _ := TPost.told (f := f + 1) (d := .mk 1 cn [] l) (ta := none) (tc := 0) HHR.out h9 (HGF.out _ hg19) hlc ((htin.keep (fun b hb => hg9.block b hb.2 (by simp; omega))).wide (fun b hb => ⟨by omega, by rw [hs9]; exact hb.2⟩)) (txx_nil _ _)
        clear h8 g8 hg18 hrow hcx hlc htin hg9 h9 hg19 hs9 hs7 hb46 hw14
        go_wp2
        refine bodyPost_ret (v := .agg #[.int .i64 1, .string cn, .slice none 0 0, .slice la l.length lc]) (by simp [results, Tryd.results51, go_sem, x0, x1, x2, x3]) rfl ?_
        rw [HP.out]
        exact HFIN.out
    · rw [if_neg h40] at hTT
      simp only [decide_eq_false h40] at hPX
      have HPX : Hid _ := hPX
      have HP : Hid (T = .ok (.mk 1 cn [] []) k3) := hTT.symm
      clear hN hTT hqs hk hkp hks hkk HT hR h34 h91 h45 h63 hbl hr hNM hpos hk3 hk3p hk3s hSK hPX hdec h40
      go_enter Tryd.func51, Tryd.ntmps51
      go_wp2_with (go_at_call 66; refine (HN.out ()).mono ?_)
      first | rintro e w3 rfl h3 g3 | rintro e w3 ⟨rfl, h3, g3⟩
      have HR3 : Hid _ := h3
      have HG3 : Hid _ := g3
      clear h3 g3
      go_wp2_with (go_at_call 70; refine (HNM.out _ HR3.out).mono ?_)
      first | rintro e w4 rfl h4 g4 | rintro e w4 ⟨rfl, h4, g4⟩
      have HG4 : Hid _ := grown_tr HG3.out g4
      have hal : Below w4.heap.size w4 (w4.alloc (.cells #[.int .i64 1, .string cn, .slice none 0 0, .slice none 0 0] 25)) := (Below.refl _ _).alloc (Nat.le_refl _) _
      have HR4 : Hid _ := h4.below hal h4.lt
      have HG5 : Hid (w1.grownBy (w4.alloc (.cells #[.int .i64 1, .string cn, .slice none 0 0, .slice none 0 0] 25)) (some R)) := grown_tr HG4.out (grown_of_below hal _)
      have HBC : Hid (∀ W, (w4.alloc (.cells #[.int .i64 1, .string cn, .slice none 0 0, .slice none 0 0] 25)).grownBy W (some R) → ∀ (j : Nat) v, (#[.int .i64 1, .string cn, .slice none 0 0, .slice none 0 0] : Array Value)[j]? = some v → W.cell? ⟨w4.heap.size, j, none⟩ = some v ∧ W.frozen? ⟨w4.heap.size, j, none⟩ = false) := fun W hg => res_cells (by have := HSZ.out _ HG4.out; have := HHR.out; omega) hg
      clear h4 g4 hal
      go_wp2_with (go_at_call 52; refine (HSK.out _ HR4.out).mono ?_)
      first | rintro e w6 rfl h6 g6 | rintro e w6 ⟨rfl, h6, g6⟩
      have HR6 : Hid _ := h6
      have HB6 : Hid _ := g6
      have HG6 : Hid _ := grown_tr HG5.out g6
      clear h6 g6
      have q1 := HR6.out.at'
      have q0 := HR6.out.text
      obtain ⟨y0, z0⟩ := HBC.out w6 HB6.out 0 _ rfl
      obtain ⟨y1, z1⟩ := HBC.out w6 HB6.out 1 _ rfl
      obtain ⟨y2, z2⟩ := HBC.out w6 HB6.out 2 _ rfl
      obtain ⟨y3, z3⟩ := HBC.out w6 HB6.out 3 _ rfl
      obtain ⟨x0, f0⟩ := HRC.out w6 HG6.out 0 _ rfl
      obtain ⟨x1, f1⟩ := HRC.out w6 HG6.out 1 _ rfl
      obtain ⟨x2, f2⟩ := HRC.out w6 HG6.out 2 _ rfl
      obtain ⟨x3, f3⟩ := HRC.out w6 HG6.out 3 _ rfl
      have HFIN : Hid (∀ n, TPost R s (f + 1) w (.ok (.mk 1 cn [] []) k3) (.returned (.agg #[.int .i64 1, .string cn, .slice none 0 0, .slice none 0 0])) (put4 (w6.drewN n) w.heap.size (.int .i64 1) (.string cn) (.slice none 0 0) (.slice none 0 0))) := fun n => TPost.told (f := f + 1) (d := .mk 1 cn [] []) (va := none) (vc := 0) (ta := none) (tc := 0) HHR.out (HR6.out.drewN n) (HGF.out _ (grown_tr HG6.out (grown_of_below (Below.of_drewN w6 n) _))) (Nat.le_refl _) (mix_nil _ _ _ _) (txx_nil _ _)
      go_wp2
      go_quiet ((go_at_call 71; exact Calls.quiet_of_same (HPX.out _)))
      go_wp2
      refine bodyPost_ret (v := .agg #[.int .i64 1, .string cn, .slice none 0 0, .slice none 0 0]) (by simp [results, Tryd.results51, go_sem, x0, x1, x2, x3]) rfl ?_
      rw [HP.out]
      exact HFIN.out nq
end Go.Proofs.YtlkcadibjmfmcaaDoor
