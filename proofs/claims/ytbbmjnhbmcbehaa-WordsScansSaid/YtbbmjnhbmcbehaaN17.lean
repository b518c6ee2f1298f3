/- SameWords of the document, at lists that are the same. -/
import Derived.Test.YtbbmjnhbmcbehaaN16
import Derived.Test.YtbbmjnhbmcbehaaP2
namespace Go.Proofs.Ytbbmjnhbmcbehaa
open Go.RowKit

/-- The cells of a word of a list. -/
theorem Words.cell {W : World} {base : Nat} {lv : Value} {L : List (Wd × Value)} (h : Words W base lv L) {i : Nat} {q : Wd × Value} (hq : L[i]? = some q) :
    ∃ g cap, lv = .slice (some ⟨g, 0, none⟩) L.length cap ∧ g < W.heap.size ∧ ∀ j, j < 11 → W.cell? ⟨g, i * 11 + j, none⟩ = (wcell q.1 q.2)[j]? := by
  have hi : i < L.length := (List.getElem?_eq_some_iff.1 hq).1
  rcases h.row.2 with ⟨_, h0⟩ | ⟨g, cap, cur, hv, _⟩
  · omega
  · subst hv
    refine ⟨g, cap, rfl, (h.row.lt g rfl).2, fun j hj => ?_⟩
    rw [h.row.cellAt (i * 11 + j) (by omega), wcells_get L i j q hq hj]
set_option maxRecDepth 100000 in
set_option maxHeartbeats 4000000 in
theorem same_any (pl : Bool) (lv lv' : Value) (L L' : List (Wd × Value)) (b1 b2 : Nat) (w : World) (h : Words w b1 lv L) (h' : Words w b2 lv' L') (hcw : L.map (fun q => cw q.1) = L'.map (fun q => cw q.1)) (hpl : pl = true → L.map (·.1) = L'.map (·.1)) (hl : L.length ≤ 65537) :
    Calls Try.prog 15 #[lv, lv', .bool pl] w fun e w' => e = .returned (.bool true) ∧ Below w.heap.size w w' := by
  have hlen : L.length = L'.length := by have := congrArg List.length hcw; simpa using this
  obtain ⟨a, c, rfl⟩ := row_slice h.row
  obtain ⟨a', c', rfl⟩ := row_slice h'.row
  have hli : (L.length : Int) ≤ 65537 := by omega
  have HLEN : Hid _ := hlen
  have hll : L'.length = L.length := hlen.symm
  rw [hll]
  clear hlen
  go_enter Try.func15, Try.ntmps15
  go_wp2
  go_loopw [7] (fun i wr => ∃ k : Nat, k ≤ L.length ∧ i = .int .i64 k ∧ Below w.heap.size w wr) (fun i _ => L.length - (intOf i).toNat)
  case atStart => exact ⟨0, Nat.zero_le _, rfl, Below.refl _ _⟩
  case round =>
    obtain ⟨k, hk, rfl, hB⟩ := hrel
    by_cases hlt : k < L.length
    · have hlt' : (k : Int) < L.length := by omega
      obtain ⟨q, hq⟩ : ∃ q, L[k]? = some q := ⟨_, List.getElem?_eq_getElem hlt⟩
      obtain ⟨q', hq'⟩ : ∃ q', L'[k]? = some q' := ⟨_, List.getElem?_eq_getElem (by omega)⟩
      have hWr := h.after hB
      have hWr' := h'.after hB
      obtain ⟨g, cap, e, hg, hc⟩ := hWr.cell hq
      obtain ⟨g', cap', e', hg', hc'⟩ := hWr'.cell hq'
      cases e
      rw [hll] at e'
      cases e'
      have hr := hWr.bytes q (List.mem_of_getElem? hq)
      have hr' := hWr'.bytes q' (List.mem_of_getElem? hq')
      have hcq : cw q.1 = cw q'.1 := by
        have := congrArg (fun l => l[k]?) hcw
        simp only [List.getElem?_map, hq, hq', Option.map_some, Option.some.injEq] at this
        exact this
      have hpq : pl = true → q.1 = q'.1 := fun hp => by
        have := congrArg (fun l => l[k]?) (hpl hp)
        simp only [List.getElem?_map, hq, hq', Option.map_some, Option.some.injEq] at this
        exact this
      clear hq hq' hWr hWr'
      obtain ⟨⟨kd, tx, bs, st, nn, fr, li, co⟩, v⟩ := q
      obtain ⟨⟨kd', tx', bs', st', nn', fr', li', co'⟩, v'⟩ := q'
      simp only [cw, Prod.mk.injEq] at hcq
      obtain ⟨rfl, rfl, rfl, rfl, rfl⟩ := hcq
      simp only at hr hr'
      have c0 := hc 0 (by decide)
      have c1 := hc 1 (by decide)
      have c2 := hc 2 (by decide)
      have c3 := hc 3 (by decide)
      have c4 := hc 4 (by decide)
      have c5 := hc 5 (by decide)
      have c6 := hc 6 (by decide)
      have c7 := hc 7 (by decide)
      have c8 := hc 8 (by decide)
      have c9 := hc 9 (by decide)
      have c10 := hc 10 (by decide)
      have d0 := hc' 0 (by decide)
      have d1 := hc' 1 (by decide)
      have d2 := hc' 2 (by decide)
      have d3 := hc' 3 (by decide)
      have d4 := hc' 4 (by decide)
      have d5 := hc' 5 (by decide)
      have d6 := hc' 6 (by decide)
      have d7 := hc' 7 (by decide)
      have d8 := hc' 8 (by decide)
      have d9 := hc' 9 (by decide)
      have d10 := hc' 10 (by decide)
      simp only [wcell, List.getElem?_cons_zero, List.getElem?_cons_succ, Nat.add_zero] at c0 c1 c2 c3 c4 c5 c6 c7 c8 c9 c10 d0 d1 d2 d3 d4 d5 d6 d7 d8 d9 d10
      obtain ⟨va, vc, rfl⟩ := row_slice hr
      obtain ⟨va', vc', rfl⟩ := row_slice hr'
      have HC : ∀ o1 o2, (convert 30 9 (.slice va bs.length vc)).run Try.prog ((wr.alloc o1).alloc o2).drew = .ok (.string (strOfNums (bs.map (fun n : Nat => (n : Int))))) ((wr.alloc o1).alloc o2).drew := fun o1 o2 => row_conv ((hr.alloc o1).alloc o2).drew
      have HC' : ∀ o1 o2, (convert 30 9 (.slice va' bs.length vc')).run Try.prog ((wr.alloc o1).alloc o2).drew = .ok (.string (strOfNums (bs.map (fun n : Nat => (n : Int))))) ((wr.alloc o1).alloc o2).drew := fun o1 o2 => row_conv ((hr'.alloc o1).alloc o2).drew
      have E0 : ∀ w, (Op.equalIn 10000 33 (.agg #[.int .u64 st.a, .int .u64 st.b, .int .u64 st.c, .int .u64 st.d]) (.agg #[.int .u64 st.a, .int .u64 st.b, .int .u64 st.c, .int .u64 st.d])).run Try.prog w = .ok true w := fun w => by rw [eq26, (St.same_eq _ _).2 rfl]
      clear hc hc' hr hr' hcw hpl h h'
      generalize strOfNums (bs.map (fun n : Nat => (n : Int))) = bx at *
      have hB2 := fun o1 o2 => (((hB.alloc hB.size o1).alloc (by have := hB.size; simp; omega) o2).drew)
      cases pl
      · clear hpq
        go_wp2
        go_region
        all_goals go_wp2
        all_goals exact ⟨⟨k + 1, by omega, by go_num, hB2 _ _⟩, by simp [intOf]; omega⟩
      · have hpe := hpq rfl
        simp only [Wd.mk.injEq, true_and] at hpe
        obtain ⟨rfl, rfl, rfl⟩ := hpe
        clear hpq
        go_wp2
        go_region
        all_goals go_wp2
        all_goals exact ⟨⟨k + 1, by omega, by go_num, hB2 _ _⟩, by simp [intOf]; omega⟩
    · obtain rfl : k = L.length := by omega
      clear hlt hk
      go_wp2
      go_ret
      exact ⟨rfl, hB⟩
end Go.Proofs.Ytbbmjnhbmcbehaa
