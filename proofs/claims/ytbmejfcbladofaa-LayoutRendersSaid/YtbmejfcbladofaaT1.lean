/- The things of a document are added to a list: the walk. -/
import Derived.Test.YtbmejfcbladofaaT0
namespace Go.Proofs.Ytbmejfcbladofaa
open Go.RowKit

theorem okK_n {d : Dc} (h : okK d = true) : 0 ≤ d.n ∧ d.n ≤ 1000 := by
  unfold okK okC at h
  repeat' split at h
  all_goals simp at h
  all_goals omega
theorem okK_kids {d : Dc} (h : okK d = true) (h1 : d.kind = 1 ∨ d.kind = 2 ∨ d.kind = 3) : d.kids = [] := by
  unfold okK okC at h
  rcases h1 with h1 | h1 | h1 <;> simp [h1] at h <;> exact h.1.2
theorem okK_kind {d : Dc} (h : okK d = true) : d.kind = 1 ∨ d.kind = 2 ∨ d.kind = 3 ∨ d.kind = 4 ∨ d.kind = 5 ∨ d.kind = 6 := by
  unfold okK okC at h
  repeat' split at h
  all_goals simp at h
  all_goals omega
theorem hmf45 : ∀ (fn : Fn) (first cap : Array Value) (w : World), (Instr.makeFunc fn first cap).run Try.prog w = .ok (.func fn first cap) w := fun _ _ _ _ => rfl
theorem cell_one (w : World) (u : Value) (t : TypeId) : ∀ j x, [u][j]? = some x → (w.alloc (.cells #[u] t)).cell? ((⟨w.heap.size, 0, none⟩ : Addr).add j) = some x := fun j x hx => by
  have hadd : (⟨w.heap.size, 0, none⟩ : Addr).add j = ⟨w.heap.size, j, none⟩ := by unfold Addr.add; split <;> simp_all
  rw [hadd, World.cell?_alloc_at _ _ _ _ rfl]; simpa using hx
set_option maxRecDepth 100000 in
set_option maxHeartbeats 16000000 in
theorem add_k1 (d : Dc) (m : Nat) (i : Int) (f : Nat) (sa : Option Addr) (sc lo LB FB : Nat) (v : Value) (ts : List Th) (w : World) (hok : ∀ p ∈ pre d m, okP p = true) (hi0 : 0 ≤ i) (hi1 : i ≤ 1000 * (m : Int)) (hk : DAt w lo f sa d.kids) (hA : AddS lo LB FB v ts w) (hroom : ts.length + (pre d m).length ≤ 1000000)
    (ih : (∀ (x : Dc) (k : Nat) (fx : Nat) (sx : Option Addr) (cx : Nat) (vx : Value) (tx : List Th) (W : World), d.kids[k]? = some x → DAt W lo fx sx x.kids → AddS lo LB FB vx tx W → tx.length + (pre x (m + 1)).length ≤ 1000000 →
        Calls Try.prog 45 #[.agg #[.int .i64 x.kind, .string x.text, .int .i64 x.n, .slice sx x.kids.length cx], .int .i64 (i + d.n), .pointer (some ⟨LB, 0, none⟩), .pointer (some ⟨FB, 0, none⟩)] W fun e w' => (∃ rv, e = .returned rv) ∧ ∃ v', AddS lo LB FB v' (tx ++ thg x (i + d.n)) w' ∧ Turn LB vx v' W w')) (hkd : d.kind = 1) :
    Calls Try.prog 45 #[.agg #[.int .i64 d.kind, .string d.text, .int .i64 d.n, .slice sa d.kids.length sc], .int .i64 i, .pointer (some ⟨LB, 0, none⟩), .pointer (some ⟨FB, 0, none⟩)] w fun e w' => (∃ rv, e = .returned rv) ∧ ∃ v', AddS lo LB FB v' (ts ++ thg d i) w' ∧ Turn LB v v' w w' := by
  obtain ⟨i0, hinf, hz0, hz1, hz2⟩ := info_parts info88
  have hpre := pre_eq d m
  have hok1 := hok (d, m) (by rw [hpre]; simp)
  have hokd : okK d = true := by unfold okP at hok1; simp at hok1; exact hok1.2
  have hm200 : m ≤ 200 := by unfold okP at hok1; simp at hok1; exact hok1.1
  have hn := okK_n hokd
  have hlen : (pre d m).length = (preL d.kids (m + 1)).length + 1 := by rw [hpre]; simp
  have IH : Hid _ := ih
  have hthl := thgL_len d.kids (i + d.n) (m + 1)
  have HTH : Hid _ := thg_eq d i
  have HTK : Hid _ := fun k x h => @thgL_take d.kids k x h (i + d.n)
  have HPL : Hid _ := fun k x h => @preL_take_len d.kids k x h (m + 1)
  have HTT : Hid (∀ k, (thgL (d.kids.take k) (i + d.n)).length ≤ (preL (d.kids.take k) (m + 1)).length) := fun k => thgL_len _ _ _
  have hnL : IntKind.i64.wrap (i + d.n) = i + d.n := by rw [IntKind.wrap_i64]; omega
  have hkl := hk.len
  have hll := hA.lb.lt
  have hfl := hA.fb.lt
  have hloB := hA.lol
  have hloF := hA.lof
  obtain ⟨W1, hW1⟩ : ∃ W1, w.alloc (.cells #[.int .i64 d.kind, .string d.text, .int .i64 d.n, .slice sa d.kids.length sc] 24) = W1 := ⟨_, rfl⟩
  have s1 : W1.heap.size = w.heap.size + 1 := by rw [← hW1]; simp
  have hB1 : Below w.heap.size w W1 := by rw [← hW1]; exact (Below.refl _ _).alloc (Nat.le_refl _) _
  have hA1 := hA.below hB1
  have HT1 : Hid (Turn LB v v w W1) := Turn.of_below hB1
  have x0 : W1.cell? ⟨w.heap.size, 0, none⟩ = some (.int .i64 d.kind) := by rw [← hW1]; exact cell_new 0 rfl
  have x1 : W1.cell? ⟨w.heap.size, 1, none⟩ = some (.string d.text) := by rw [← hW1]; exact cell_new 1 rfl
  have x2 : W1.cell? ⟨w.heap.size, 2, none⟩ = some (.int .i64 d.n) := by rw [← hW1]; exact cell_new 2 rfl
  have x3 : W1.cell? ⟨w.heap.size, 3, none⟩ = some (.slice sa d.kids.length sc) := by rw [← hW1]; exact cell_new 3 rfl
  have hvlt := hA.row_lt
  obtain ⟨va, vc, rfl⟩ := row_slice hA.row
  have c1 := hA1.lb.cell
  have f1 := hA1.lb.frozen
  have hrow1 := hA1.row
  have hl1 := hA1.lb.lt
  have HKD : Hid (d.kind = 1 ∨ d.kind = 2 ∨ d.kind = 3 → d.kids = []) := fun h => okK_kids hokd h
  have HS1 : Hid _ := s1
  clear hok hok1 hokd hi0 hi1 hpre hA s1 ih
  generalize d.kind = kd at *
  subst hkd
  go_enter Try.func45, Try.ntmps45
  go_wp2_with (at_builtin; refine wpList_append_lies _ rfl _ _ 65 rfl lo 88 i0 _ 1 16 Try.underlying65 hinf hz0 hz1 hz2 rfl (by decide) (.slice va ts.length vc) ts.length (thsV ts) rfl (hrow1.alloc _) ⟨W1.heap.size, 0, none⟩ 1 1 [.iface 93 (.string d.text)] rfl rfl ?ca1 ?ca2 (by decide) ?ca3 ?ca4 ?ca5 (W1.heap.size + 1) (by simp) ?_)
  try case ca1 => exact cell_one _ _ _
  case ca2 => first | rfl | (intro u hu; simp at hu; subst hu; rfl)
  case ca3 => unfold maxLen; omega
  case ca4 => omega
  case ca5 => have := HS1.out; simp; omega
  intro g cap w1 hown hgrow hat _
  have hBm : Below W1.heap.size W1 (W1.alloc (.cells #[.iface 93 (.string d.text)] 88)) := (Below.refl _ _).alloc (Nat.le_refl _) _
  obtain ⟨hAs, hT2⟩ := hA1.push hBm (.text d.text) hgrow hown (by rw [World.size_alloc]; exact hat)
  have q1 : w1.cell? ⟨LB, 0, none⟩ = some (.slice va ts.length vc) := (hgrow.cell_far ⟨LB, 0, none⟩ (by have := hBm.size; show LB < _; omega) (fun e => hA1.nl e.symm)).trans ((hBm.cell (p := ⟨LB, 0, none⟩) hl1).trans c1)
  have q2 : w1.frozen? ⟨LB, 0, none⟩ = false := (hgrow.frozen_far ⟨LB, 0, none⟩ (by have := hBm.size; show LB < _; omega) (fun e => hA1.nl e.symm)).trans ((hBm.frozen (p := ⟨LB, 0, none⟩) hl1).trans f1)
  obtain ⟨Ws, hWs⟩ : ∃ Ws, w1.setCell ⟨LB, 0, none⟩ (.slice (some ⟨g, 0, none⟩) (ts.length + 1) cap) = Ws := ⟨_, rfl⟩
  obtain ⟨vs, hvs⟩ : ∃ vs, Value.slice (some ⟨g, 0, none⟩) (ts.length + 1) cap = vs := ⟨_, rfl⟩
  obtain ⟨t0, ht0⟩ : ∃ t0 : List Th, ts ++ [.text d.text] = t0 := ⟨_, rfl⟩
  rw [hWs, hvs, ht0] at hAs
  rw [hWs, hvs] at hT2
  have HTs : Hid (Turn LB (.slice va ts.length vc) vs w Ws) := HT1.out.trans hT2
  have HX : Hid (∀ q, Ws.cell? ⟨w.heap.size, q, none⟩ = W1.cell? ⟨w.heap.size, q, none⟩) := fun q => World.cell?_of_block (a := ⟨w.heap.size, q, none⟩) (hT2.keep w.heap.size (by have := HS1.out; omega) (by omega) (fun e => by have := (hvlt _ e).2; omega))
  have HWs : Hid (w.heap.size < Ws.heap.size) := by show _ < _; have := hT2.size; have := HS1.out; omega
  have HNs : Hid (vs.ownBlock ≠ some w.heap.size) := fun e => by
    rcases hT2.own _ e with h | h
    · have := (hvlt _ h).2; omega
    · have := HS1.out; omega
  have ht0l : t0.length = ts.length + 1 := by rw [← ht0]; simp
  clear hown hgrow hat hT2 hvs
  have hlos : lo ≤ Ws.heap.size := by have := hAs.lb.lt; omega
  have hdw : DAt Ws lo f sa d.kids := HTs.out.dat hloB (fun b hb => (hvlt b hb).1) (by omega) hk
  have y0 : Ws.cell? ⟨w.heap.size, 0, none⟩ = some (.int .i64 1) := (HX.out _).trans x0
  have y2 : Ws.cell? ⟨w.heap.size, 2, none⟩ = some (.int .i64 d.n) := (HX.out _).trans x2
  have y3 : Ws.cell? ⟨w.heap.size, 3, none⟩ = some (.slice sa d.kids.length sc) := (HX.out _).trans x3
  have hnlt := hAs.row_lt
  clear x0 x1 x2 x3 c1 f1 hrow1 hl1 hA1 hB1 hW1
  go_wp2
  go_loopw [49] (fun iv W => ∃ (k : Nat) (vk : Value), k ≤ d.kids.length ∧ iv = .int .i64 k ∧ AddS lo LB FB vk (t0 ++ thgL (d.kids.take k) (i + d.n)) W ∧ Turn LB vs vk Ws W) (fun iv _ => d.kids.length - (intOf iv).toNat)
  case atStart => exact ⟨0, vs, by omega, rfl, by rw [List.take_zero, thgL, List.append_nil]; exact hAs, Turn.refl _ _ _⟩
  case round =>
    obtain ⟨k, vk, hkk, rfl, hAk, hTk⟩ := hrel
    have hXk : ∀ q, wr.cell? ⟨w.heap.size, q, none⟩ = Ws.cell? ⟨w.heap.size, q, none⟩ := fun q => World.cell?_of_block (a := ⟨w.heap.size, q, none⟩) (hTk.keep w.heap.size HWs.out (by omega) HNs.out)
    have z0 := (hXk 0).trans y0
    have z2 := (hXk 2).trans y2
    have z3 := (hXk 3).trans y3
    have hck := hAk.lb.cell
    have hfk := hAk.fb.cell
    have hff := hAk.lb.frozen
    by_cases hlt : k < d.kids.length
    · obtain ⟨x, hx⟩ : ∃ x, d.kids[k]? = some x := ⟨d.kids[k], by simp⟩
      have hdk : DAt wr lo f sa d.kids := hTk.dat hloB (fun b hb => (hnlt b hb).1) hlos hdw
      obtain ⟨b, o, rfl, hbl, sx, cx, e0, e1, e2, e3, hcx, hdx⟩ := hdk.one hx
      have hkI : (k : Int) < d.kids.length := by omega
      have hPL := HPL.out k x hx
      have hTT := HTT.out k
      obtain ⟨W4, hW4⟩ : ∃ W4, wr.alloc (.cells #[.int .i64 x.kind, .string x.text, .int .i64 x.n, .slice sx x.kids.length cx] 24) = W4 := ⟨_, rfl⟩
      have hB4 : Below wr.heap.size wr W4 := by rw [← hW4]; exact (Below.refl _ _).alloc (Nat.le_refl _) _
      have hC : Hid _ := fun (_ : Unit) => IH.out x k f sx cx vk (t0 ++ thgL (d.kids.take k) (i + d.n)) W4 hx (hdx.keep (hB4.mono (by have := hAk.lb.lt; omega))) (hAk.below hB4) (by rw [List.length_append]; omega)
      have a0 : W4.cell? ⟨wr.heap.size, 0, none⟩ = some (.int .i64 x.kind) := by rw [← hW4]; exact cell_new 0 rfl
      have a1 : W4.cell? ⟨wr.heap.size, 1, none⟩ = some (.string x.text) := by rw [← hW4]; exact cell_new 1 rfl
      have a2 : W4.cell? ⟨wr.heap.size, 2, none⟩ = some (.int .i64 x.n) := by rw [← hW4]; exact cell_new 2 rfl
      have a3 : W4.cell? ⟨wr.heap.size, 3, none⟩ = some (.slice sx x.kids.length cx) := by rw [← hW4]; exact cell_new 3 rfl
      have a4 : W4.cell? ⟨FB, 0, none⟩ = _ := (hB4.cell (p := ⟨FB, 0, none⟩) hAk.fb.lt).trans hfk
      have a5 : W4.cell? ⟨w.heap.size, 2, none⟩ = some (.int .i64 d.n) := (hB4.cell (p := ⟨w.heap.size, 2, none⟩) (by have := hTk.size; have := HWs.out; show w.heap.size < _; omega)).trans z2
      have HK2 : Hid _ := HTK.out k x hx
      have HTk : Hid (Turn LB vs vk Ws W4) := hTk.trans (Turn.of_below hB4)
      clear hdx hdk hTk hAk hB4 z0 z2 hXk hff hck hfk
      go_wp2_with (go_at_call 45; refine (hC.out ()).mono ?_)
      rintro e w5 ⟨⟨rv, rfl⟩, v5, hA5, hT5⟩
      clear a0 a1 a2 a3 a4 a5 hC e0 e1 e2 e3 z3
      go_wp2
      refine ⟨⟨k + 1, v5, by omega, by go_num, ?_, HTk.out.trans hT5⟩, by simp [intOf]; omega⟩
      rw [HK2.out, ← List.append_assoc]
      exact hA5
    · obtain rfl : k = d.kids.length := by omega
      rw [List.take_length] at hAk
      clear hkk hXk
      have hth : thg d i = .text d.text :: thgL d.kids (i + d.n) := by rw [HTH.out]; simp
      go_wp2
      go_end0
      refine ⟨⟨_, rfl⟩, vk, ?_, HTs.out.trans hTk⟩
      rw [hth]
      rw [← ht0, List.append_assoc] at hAk
      exact hAk
set_option maxRecDepth 100000 in
set_option maxHeartbeats 16000000 in
theorem add_k2 (d : Dc) (m : Nat) (i : Int) (f : Nat) (sa : Option Addr) (sc lo LB FB : Nat) (v : Value) (ts : List Th) (w : World) (hok : ∀ p ∈ pre d m, okP p = true) (hi0 : 0 ≤ i) (hi1 : i ≤ 1000 * (m : Int)) (hk : DAt w lo f sa d.kids) (hA : AddS lo LB FB v ts w) (hroom : ts.length + (pre d m).length ≤ 1000000)
    (ih : (∀ (x : Dc) (k : Nat) (fx : Nat) (sx : Option Addr) (cx : Nat) (vx : Value) (tx : List Th) (W : World), d.kids[k]? = some x → DAt W lo fx sx x.kids → AddS lo LB FB vx tx W → tx.length + (pre x (m + 1)).length ≤ 1000000 →
        Calls Try.prog 45 #[.agg #[.int .i64 x.kind, .string x.text, .int .i64 x.n, .slice sx x.kids.length cx], .int .i64 (i + d.n), .pointer (some ⟨LB, 0, none⟩), .pointer (some ⟨FB, 0, none⟩)] W fun e w' => (∃ rv, e = .returned rv) ∧ ∃ v', AddS lo LB FB v' (tx ++ thg x (i + d.n)) w' ∧ Turn LB vx v' W w')) (hkd : d.kind = 2) :
    Calls Try.prog 45 #[.agg #[.int .i64 d.kind, .string d.text, .int .i64 d.n, .slice sa d.kids.length sc], .int .i64 i, .pointer (some ⟨LB, 0, none⟩), .pointer (some ⟨FB, 0, none⟩)] w fun e w' => (∃ rv, e = .returned rv) ∧ ∃ v', AddS lo LB FB v' (ts ++ thg d i) w' ∧ Turn LB v v' w w' := by
  obtain ⟨i0, hinf, hz0, hz1, hz2⟩ := info_parts info88
  have hpre := pre_eq d m
  have hok1 := hok (d, m) (by rw [hpre]; simp)
  have hokd : okK d = true := by unfold okP at hok1; simp at hok1; exact hok1.2
  have hm200 : m ≤ 200 := by unfold okP at hok1; simp at hok1; exact hok1.1
  have hn := okK_n hokd
  have hlen : (pre d m).length = (preL d.kids (m + 1)).length + 1 := by rw [hpre]; simp
  have IH : Hid _ := ih
  have hthl := thgL_len d.kids (i + d.n) (m + 1)
  have HTH : Hid _ := thg_eq d i
  have HTK : Hid _ := fun k x h => @thgL_take d.kids k x h (i + d.n)
  have HPL : Hid _ := fun k x h => @preL_take_len d.kids k x h (m + 1)
  have HTT : Hid (∀ k, (thgL (d.kids.take k) (i + d.n)).length ≤ (preL (d.kids.take k) (m + 1)).length) := fun k => thgL_len _ _ _
  have hnL : IntKind.i64.wrap (i + d.n) = i + d.n := by rw [IntKind.wrap_i64]; omega
  have hkl := hk.len
  have hll := hA.lb.lt
  have hfl := hA.fb.lt
  have hloB := hA.lol
  have hloF := hA.lof
  obtain ⟨W1, hW1⟩ : ∃ W1, w.alloc (.cells #[.int .i64 d.kind, .string d.text, .int .i64 d.n, .slice sa d.kids.length sc] 24) = W1 := ⟨_, rfl⟩
  have s1 : W1.heap.size = w.heap.size + 1 := by rw [← hW1]; simp
  have hB1 : Below w.heap.size w W1 := by rw [← hW1]; exact (Below.refl _ _).alloc (Nat.le_refl _) _
  have hA1 := hA.below hB1
  have HT1 : Hid (Turn LB v v w W1) := Turn.of_below hB1
  have x0 : W1.cell? ⟨w.heap.size, 0, none⟩ = some (.int .i64 d.kind) := by rw [← hW1]; exact cell_new 0 rfl
  have x1 : W1.cell? ⟨w.heap.size, 1, none⟩ = some (.string d.text) := by rw [← hW1]; exact cell_new 1 rfl
  have x2 : W1.cell? ⟨w.heap.size, 2, none⟩ = some (.int .i64 d.n) := by rw [← hW1]; exact cell_new 2 rfl
  have x3 : W1.cell? ⟨w.heap.size, 3, none⟩ = some (.slice sa d.kids.length sc) := by rw [← hW1]; exact cell_new 3 rfl
  have hvlt := hA.row_lt
  obtain ⟨va, vc, rfl⟩ := row_slice hA.row
  have c1 := hA1.lb.cell
  have f1 := hA1.lb.frozen
  have hrow1 := hA1.row
  have hl1 := hA1.lb.lt
  have HKD : Hid (d.kind = 1 ∨ d.kind = 2 ∨ d.kind = 3 → d.kids = []) := fun h => okK_kids hokd h
  have HS1 : Hid _ := s1
  clear hok hok1 hokd hi0 hi1 hpre hA s1 ih
  generalize d.kind = kd at *
  subst hkd
  go_enter Try.func45, Try.ntmps45
  go_wp2_with (at_builtin; refine wpList_append_lies _ rfl _ _ 65 rfl lo 88 i0 _ 1 16 Try.underlying65 hinf hz0 hz1 hz2 rfl (by decide) (.slice va ts.length vc) ts.length (thsV ts) rfl (hrow1.alloc _) ⟨W1.heap.size, 0, none⟩ 1 1 [.iface 95 (.agg #[.string d.text, .int .i64 i])] rfl rfl ?ca1 ?ca2 (by decide) ?ca3 ?ca4 ?ca5 (W1.heap.size + 1) (by simp) ?_)
  try case ca1 => exact cell_one _ _ _
  case ca2 => first | rfl | (intro u hu; simp at hu; subst hu; rfl)
  case ca3 => unfold maxLen; omega
  case ca4 => omega
  case ca5 => have := HS1.out; simp; omega
  intro g cap w1 hown hgrow hat _
  have hBm : Below W1.heap.size W1 (W1.alloc (.cells #[.iface 95 (.agg #[.string d.text, .int .i64 i])] 88)) := (Below.refl _ _).alloc (Nat.le_refl _) _
  obtain ⟨hAs, hT2⟩ := hA1.push hBm (.line d.text i) hgrow hown (by rw [World.size_alloc]; exact hat)
  have q1 : w1.cell? ⟨LB, 0, none⟩ = some (.slice va ts.length vc) := (hgrow.cell_far ⟨LB, 0, none⟩ (by have := hBm.size; show LB < _; omega) (fun e => hA1.nl e.symm)).trans ((hBm.cell (p := ⟨LB, 0, none⟩) hl1).trans c1)
  have q2 : w1.frozen? ⟨LB, 0, none⟩ = false := (hgrow.frozen_far ⟨LB, 0, none⟩ (by have := hBm.size; show LB < _; omega) (fun e => hA1.nl e.symm)).trans ((hBm.frozen (p := ⟨LB, 0, none⟩) hl1).trans f1)
  obtain ⟨Ws, hWs⟩ : ∃ Ws, w1.setCell ⟨LB, 0, none⟩ (.slice (some ⟨g, 0, none⟩) (ts.length + 1) cap) = Ws := ⟨_, rfl⟩
  obtain ⟨vs, hvs⟩ : ∃ vs, Value.slice (some ⟨g, 0, none⟩) (ts.length + 1) cap = vs := ⟨_, rfl⟩
  obtain ⟨t0, ht0⟩ : ∃ t0 : List Th, ts ++ [.line d.text i] = t0 := ⟨_, rfl⟩
  rw [hWs, hvs, ht0] at hAs
  rw [hWs, hvs] at hT2
  have HTs : Hid (Turn LB (.slice va ts.length vc) vs w Ws) := HT1.out.trans hT2
  have HX : Hid (∀ q, Ws.cell? ⟨w.heap.size, q, none⟩ = W1.cell? ⟨w.heap.size, q, none⟩) := fun q => World.cell?_of_block (a := ⟨w.heap.size, q, none⟩) (hT2.keep w.heap.size (by have := HS1.out; omega) (by omega) (fun e => by have := (hvlt _ e).2; omega))
  have HWs : Hid (w.heap.size < Ws.heap.size) := by show _ < _; have := hT2.size; have := HS1.out; omega
  have HNs : Hid (vs.ownBlock ≠ some w.heap.size) := fun e => by
    rcases hT2.own _ e with h | h
    · have := (hvlt _ h).2; omega
    · have := HS1.out; omega
  have ht0l : t0.length = ts.length + 1 := by rw [← ht0]; simp
  clear hown hgrow hat hT2 hvs
  have hlos : lo ≤ Ws.heap.size := by have := hAs.lb.lt; omega
  have hdw : DAt Ws lo f sa d.kids := HTs.out.dat hloB (fun b hb => (hvlt b hb).1) (by omega) hk
  have y0 : Ws.cell? ⟨w.heap.size, 0, none⟩ = some (.int .i64 2) := (HX.out _).trans x0
  have y2 : Ws.cell? ⟨w.heap.size, 2, none⟩ = some (.int .i64 d.n) := (HX.out _).trans x2
  have y3 : Ws.cell? ⟨w.heap.size, 3, none⟩ = some (.slice sa d.kids.length sc) := (HX.out _).trans x3
  have hnlt := hAs.row_lt
  clear x0 x1 x2 x3 c1 f1 hrow1 hl1 hA1 hB1 hW1
  go_wp2
  go_loopw [49] (fun iv W => ∃ (k : Nat) (vk : Value), k ≤ d.kids.length ∧ iv = .int .i64 k ∧ AddS lo LB FB vk (t0 ++ thgL (d.kids.take k) (i + d.n)) W ∧ Turn LB vs vk Ws W) (fun iv _ => d.kids.length - (intOf iv).toNat)
  case atStart => exact ⟨0, vs, by omega, rfl, by rw [List.take_zero, thgL, List.append_nil]; exact hAs, Turn.refl _ _ _⟩
  case round =>
    obtain ⟨k, vk, hkk, rfl, hAk, hTk⟩ := hrel
    have hXk : ∀ q, wr.cell? ⟨w.heap.size, q, none⟩ = Ws.cell? ⟨w.heap.size, q, none⟩ := fun q => World.cell?_of_block (a := ⟨w.heap.size, q, none⟩) (hTk.keep w.heap.size HWs.out (by omega) HNs.out)
    have z0 := (hXk 0).trans y0
    have z2 := (hXk 2).trans y2
    have z3 := (hXk 3).trans y3
    have hck := hAk.lb.cell
    have hfk := hAk.fb.cell
    have hff := hAk.lb.frozen
    by_cases hlt : k < d.kids.length
    · obtain ⟨x, hx⟩ : ∃ x, d.kids[k]? = some x := ⟨d.kids[k], by simp⟩
      have hdk : DAt wr lo f sa d.kids := hTk.dat hloB (fun b hb => (hnlt b hb).1) hlos hdw
      obtain ⟨b, o, rfl, hbl, sx, cx, e0, e1, e2, e3, hcx, hdx⟩ := hdk.one hx
      have hkI : (k : Int) < d.kids.length := by omega
      have hPL := HPL.out k x hx
      have hTT := HTT.out k
      obtain ⟨W4, hW4⟩ : ∃ W4, wr.alloc (.cells #[.int .i64 x.kind, .string x.text, .int .i64 x.n, .slice sx x.kids.length cx] 24) = W4 := ⟨_, rfl⟩
      have hB4 : Below wr.heap.size wr W4 := by rw [← hW4]; exact (Below.refl _ _).alloc (Nat.le_refl _) _
      have hC : Hid _ := fun (_ : Unit) => IH.out x k f sx cx vk (t0 ++ thgL (d.kids.take k) (i + d.n)) W4 hx (hdx.keep (hB4.mono (by have := hAk.lb.lt; omega))) (hAk.below hB4) (by rw [List.length_append]; omega)
      have a0 : W4.cell? ⟨wr.heap.size, 0, none⟩ = some (.int .i64 x.kind) := by rw [← hW4]; exact cell_new 0 rfl
      have a1 : W4.cell? ⟨wr.heap.size, 1, none⟩ = some (.string x.text) := by rw [← hW4]; exact cell_new 1 rfl
      have a2 : W4.cell? ⟨wr.heap.size, 2, none⟩ = some (.int .i64 x.n) := by rw [← hW4]; exact cell_new 2 rfl
      have a3 : W4.cell? ⟨wr.heap.size, 3, none⟩ = some (.slice sx x.kids.length cx) := by rw [← hW4]; exact cell_new 3 rfl
      have a4 : W4.cell? ⟨FB, 0, none⟩ = _ := (hB4.cell (p := ⟨FB, 0, none⟩) hAk.fb.lt).trans hfk
      have a5 : W4.cell? ⟨w.heap.size, 2, none⟩ = some (.int .i64 d.n) := (hB4.cell (p := ⟨w.heap.size, 2, none⟩) (by have := hTk.size; have := HWs.out; show w.heap.size < _; omega)).trans z2
      have HK2 : Hid _ := HTK.out k x hx
      have HTk : Hid (Turn LB vs vk Ws W4) := hTk.trans (Turn.of_below hB4)
      clear hdx hdk hTk hAk hB4 z0 z2 hXk hff hck hfk
      go_wp2_with (go_at_call 45; refine (hC.out ()).mono ?_)
      rintro e w5 ⟨⟨rv, rfl⟩, v5, hA5, hT5⟩
      clear a0 a1 a2 a3 a4 a5 hC e0 e1 e2 e3 z3
      go_wp2
      refine ⟨⟨k + 1, v5, by omega, by go_num, ?_, HTk.out.trans hT5⟩, by simp [intOf]; omega⟩
      rw [HK2.out, ← List.append_assoc]
      exact hA5
    · obtain rfl : k = d.kids.length := by omega
      rw [List.take_length] at hAk
      clear hkk hXk
      have hth : thg d i = .line d.text i :: thgL d.kids (i + d.n) := by rw [HTH.out]; simp
      go_wp2
      go_end0
      refine ⟨⟨_, rfl⟩, vk, ?_, HTs.out.trans hTk⟩
      rw [hth]
      rw [← ht0, List.append_assoc] at hAk
      exact hAk
set_option maxRecDepth 100000 in
set_option maxHeartbeats 16000000 in
theorem add_k3 (d : Dc) (m : Nat) (i : Int) (f : Nat) (sa : Option Addr) (sc lo LB FB : Nat) (v : Value) (ts : List Th) (w : World) (hok : ∀ p ∈ pre d m, okP p = true) (hi0 : 0 ≤ i) (hi1 : i ≤ 1000 * (m : Int)) (hk : DAt w lo f sa d.kids) (hA : AddS lo LB FB v ts w) (hroom : ts.length + (pre d m).length ≤ 1000000)
    (ih : (∀ (x : Dc) (k : Nat) (fx : Nat) (sx : Option Addr) (cx : Nat) (vx : Value) (tx : List Th) (W : World), d.kids[k]? = some x → DAt W lo fx sx x.kids → AddS lo LB FB vx tx W → tx.length + (pre x (m + 1)).length ≤ 1000000 →
        Calls Try.prog 45 #[.agg #[.int .i64 x.kind, .string x.text, .int .i64 x.n, .slice sx x.kids.length cx], .int .i64 (i + d.n), .pointer (some ⟨LB, 0, none⟩), .pointer (some ⟨FB, 0, none⟩)] W fun e w' => (∃ rv, e = .returned rv) ∧ ∃ v', AddS lo LB FB v' (tx ++ thg x (i + d.n)) w' ∧ Turn LB vx v' W w')) (hkd : d.kind = 3) :
    Calls Try.prog 45 #[.agg #[.int .i64 d.kind, .string d.text, .int .i64 d.n, .slice sa d.kids.length sc], .int .i64 i, .pointer (some ⟨LB, 0, none⟩), .pointer (some ⟨FB, 0, none⟩)] w fun e w' => (∃ rv, e = .returned rv) ∧ ∃ v', AddS lo LB FB v' (ts ++ thg d i) w' ∧ Turn LB v v' w w' := by
  obtain ⟨i0, hinf, hz0, hz1, hz2⟩ := info_parts info88
  have hpre := pre_eq d m
  have hok1 := hok (d, m) (by rw [hpre]; simp)
  have hokd : okK d = true := by unfold okP at hok1; simp at hok1; exact hok1.2
  have hm200 : m ≤ 200 := by unfold okP at hok1; simp at hok1; exact hok1.1
  have hn := okK_n hokd
  have hlen : (pre d m).length = (preL d.kids (m + 1)).length + 1 := by rw [hpre]; simp
  have IH : Hid _ := ih
  have hthl := thgL_len d.kids (i + d.n) (m + 1)
  have HTH : Hid _ := thg_eq d i
  have HTK : Hid _ := fun k x h => @thgL_take d.kids k x h (i + d.n)
  have HPL : Hid _ := fun k x h => @preL_take_len d.kids k x h (m + 1)
  have HTT : Hid (∀ k, (thgL (d.kids.take k) (i + d.n)).length ≤ (preL (d.kids.take k) (m + 1)).length) := fun k => thgL_len _ _ _
  have hnL : IntKind.i64.wrap (i + d.n) = i + d.n := by rw [IntKind.wrap_i64]; omega
  have hkl := hk.len
  have hll := hA.lb.lt
  have hfl := hA.fb.lt
  have hloB := hA.lol
  have hloF := hA.lof
  obtain ⟨W1, hW1⟩ : ∃ W1, w.alloc (.cells #[.int .i64 d.kind, .string d.text, .int .i64 d.n, .slice sa d.kids.length sc] 24) = W1 := ⟨_, rfl⟩
  have s1 : W1.heap.size = w.heap.size + 1 := by rw [← hW1]; simp
  have hB1 : Below w.heap.size w W1 := by rw [← hW1]; exact (Below.refl _ _).alloc (Nat.le_refl _) _
  have hA1 := hA.below hB1
  have HT1 : Hid (Turn LB v v w W1) := Turn.of_below hB1
  have x0 : W1.cell? ⟨w.heap.size, 0, none⟩ = some (.int .i64 d.kind) := by rw [← hW1]; exact cell_new 0 rfl
  have x1 : W1.cell? ⟨w.heap.size, 1, none⟩ = some (.string d.text) := by rw [← hW1]; exact cell_new 1 rfl
  have x2 : W1.cell? ⟨w.heap.size, 2, none⟩ = some (.int .i64 d.n) := by rw [← hW1]; exact cell_new 2 rfl
  have x3 : W1.cell? ⟨w.heap.size, 3, none⟩ = some (.slice sa d.kids.length sc) := by rw [← hW1]; exact cell_new 3 rfl
  have hvlt := hA.row_lt
  obtain ⟨va, vc, rfl⟩ := row_slice hA.row
  have c1 := hA1.lb.cell
  have f1 := hA1.lb.frozen
  have hrow1 := hA1.row
  have hl1 := hA1.lb.lt
  have HKD : Hid (d.kind = 1 ∨ d.kind = 2 ∨ d.kind = 3 → d.kids = []) := fun h => okK_kids hokd h
  have HS1 : Hid _ := s1
  clear hok hok1 hokd hi0 hi1 hpre hA s1 ih
  generalize d.kind = kd at *
  subst hkd
  go_enter Try.func45, Try.ntmps45
  go_wp2_with (at_builtin; refine wpList_append_lies _ rfl _ _ 65 rfl lo 88 i0 _ 1 16 Try.underlying65 hinf hz0 hz1 hz2 rfl (by decide) (.slice va ts.length vc) ts.length (thsV ts) rfl (hrow1.alloc _) ⟨W1.heap.size, 0, none⟩ 1 1 [.iface 97 (.agg #[.int .i64 i])] rfl rfl ?ca1 ?ca2 (by decide) ?ca3 ?ca4 ?ca5 (W1.heap.size + 1) (by simp) ?_)
  try case ca1 => exact cell_one _ _ _
  case ca2 => first | rfl | (intro u hu; simp at hu; subst hu; rfl)
  case ca3 => unfold maxLen; omega
  case ca4 => omega
  case ca5 => have := HS1.out; simp; omega
  intro g cap w1 hown hgrow hat _
  have hBm : Below W1.heap.size W1 (W1.alloc (.cells #[.iface 97 (.agg #[.int .i64 i])] 88)) := (Below.refl _ _).alloc (Nat.le_refl _) _
  obtain ⟨hAs, hT2⟩ := hA1.push hBm (.hard i) hgrow hown (by rw [World.size_alloc]; exact hat)
  have q1 : w1.cell? ⟨LB, 0, none⟩ = some (.slice va ts.length vc) := (hgrow.cell_far ⟨LB, 0, none⟩ (by have := hBm.size; show LB < _; omega) (fun e => hA1.nl e.symm)).trans ((hBm.cell (p := ⟨LB, 0, none⟩) hl1).trans c1)
  have q2 : w1.frozen? ⟨LB, 0, none⟩ = false := (hgrow.frozen_far ⟨LB, 0, none⟩ (by have := hBm.size; show LB < _; omega) (fun e => hA1.nl e.symm)).trans ((hBm.frozen (p := ⟨LB, 0, none⟩) hl1).trans f1)
  obtain ⟨Ws, hWs⟩ : ∃ Ws, w1.setCell ⟨LB, 0, none⟩ (.slice (some ⟨g, 0, none⟩) (ts.length + 1) cap) = Ws := ⟨_, rfl⟩
  obtain ⟨vs, hvs⟩ : ∃ vs, Value.slice (some ⟨g, 0, none⟩) (ts.length + 1) cap = vs := ⟨_, rfl⟩
  obtain ⟨t0, ht0⟩ : ∃ t0 : List Th, ts ++ [.hard i] = t0 := ⟨_, rfl⟩
  rw [hWs, hvs, ht0] at hAs
  rw [hWs, hvs] at hT2
  have HTs : Hid (Turn LB (.slice va ts.length vc) vs w Ws) := HT1.out.trans hT2
  have HX : Hid (∀ q, Ws.cell? ⟨w.heap.size, q, none⟩ = W1.cell? ⟨w.heap.size, q, none⟩) := fun q => World.cell?_of_block (a := ⟨w.heap.size, q, none⟩) (hT2.keep w.heap.size (by have := HS1.out; omega) (by omega) (fun e => by have := (hvlt _ e).2; omega))
  have HWs : Hid (w.heap.size < Ws.heap.size) := by show _ < _; have := hT2.size; have := HS1.out; omega
  have HNs : Hid (vs.ownBlock ≠ some w.heap.size) := fun e => by
    rcases hT2.own _ e with h | h
    · have := (hvlt _ h).2; omega
    · have := HS1.out; omega
  have ht0l : t0.length = ts.length + 1 := by rw [← ht0]; simp
  clear hown hgrow hat hT2 hvs
  have hlos : lo ≤ Ws.heap.size := by have := hAs.lb.lt; omega
  have hdw : DAt Ws lo f sa d.kids := HTs.out.dat hloB (fun b hb => (hvlt b hb).1) (by omega) hk
  have y0 : Ws.cell? ⟨w.heap.size, 0, none⟩ = some (.int .i64 3) := (HX.out _).trans x0
  have y2 : Ws.cell? ⟨w.heap.size, 2, none⟩ = some (.int .i64 d.n) := (HX.out _).trans x2
  have y3 : Ws.cell? ⟨w.heap.size, 3, none⟩ = some (.slice sa d.kids.length sc) := (HX.out _).trans x3
  have hnlt := hAs.row_lt
  clear x0 x1 x2 x3 c1 f1 hrow1 hl1 hA1 hB1 hW1
  go_wp2
  go_loopw [49] (fun iv W => ∃ (k : Nat) (vk : Value), k ≤ d.kids.length ∧ iv = .int .i64 k ∧ AddS lo LB FB vk (t0 ++ thgL (d.kids.take k) (i + d.n)) W ∧ Turn LB vs vk Ws W) (fun iv _ => d.kids.length - (intOf iv).toNat)
  case atStart => exact ⟨0, vs, by omega, rfl, by rw [List.take_zero, thgL, List.append_nil]; exact hAs, Turn.refl _ _ _⟩
  case round =>
    obtain ⟨k, vk, hkk, rfl, hAk, hTk⟩ := hrel
    have hXk : ∀ q, wr.cell? ⟨w.heap.size, q, none⟩ = Ws.cell? ⟨w.heap.size, q, none⟩ := fun q => World.cell?_of_block (a := ⟨w.heap.size, q, none⟩) (hTk.keep w.heap.size HWs.out (by omega) HNs.out)
    have z0 := (hXk 0).trans y0
    have z2 := (hXk 2).trans y2
    have z3 := (hXk 3).trans y3
    have hck := hAk.lb.cell
    have hfk := hAk.fb.cell
    have hff := hAk.lb.frozen
    by_cases hlt : k < d.kids.length
    · obtain ⟨x, hx⟩ : ∃ x, d.kids[k]? = some x := ⟨d.kids[k], by simp⟩
      have hdk : DAt wr lo f sa d.kids := hTk.dat hloB (fun b hb => (hnlt b hb).1) hlos hdw
      obtain ⟨b, o, rfl, hbl, sx, cx, e0, e1, e2, e3, hcx, hdx⟩ := hdk.one hx
      have hkI : (k : Int) < d.kids.length := by omega
      have hPL := HPL.out k x hx
      have hTT := HTT.out k
      obtain ⟨W4, hW4⟩ : ∃ W4, wr.alloc (.cells #[.int .i64 x.kind, .string x.text, .int .i64 x.n, .slice sx x.kids.length cx] 24) = W4 := ⟨_, rfl⟩
      have hB4 : Below wr.heap.size wr W4 := by rw [← hW4]; exact (Below.refl _ _).alloc (Nat.le_refl _) _
      have hC : Hid _ := fun (_ : Unit) => IH.out x k f sx cx vk (t0 ++ thgL (d.kids.take k) (i + d.n)) W4 hx (hdx.keep (hB4.mono (by have := hAk.lb.lt; omega))) (hAk.below hB4) (by rw [List.length_append]; omega)
      have a0 : W4.cell? ⟨wr.heap.size, 0, none⟩ = some (.int .i64 x.kind) := by rw [← hW4]; exact cell_new 0 rfl
      have a1 : W4.cell? ⟨wr.heap.size, 1, none⟩ = some (.string x.text) := by rw [← hW4]; exact cell_new 1 rfl
      have a2 : W4.cell? ⟨wr.heap.size, 2, none⟩ = some (.int .i64 x.n) := by rw [← hW4]; exact cell_new 2 rfl
      have a3 : W4.cell? ⟨wr.heap.size, 3, none⟩ = some (.slice sx x.kids.length cx) := by rw [← hW4]; exact cell_new 3 rfl
      have a4 : W4.cell? ⟨FB, 0, none⟩ = _ := (hB4.cell (p := ⟨FB, 0, none⟩) hAk.fb.lt).trans hfk
      have a5 : W4.cell? ⟨w.heap.size, 2, none⟩ = some (.int .i64 d.n) := (hB4.cell (p := ⟨w.heap.size, 2, none⟩) (by have := hTk.size; have := HWs.out; show w.heap.size < _; omega)).trans z2
      have HK2 : Hid _ := HTK.out k x hx
      have HTk : Hid (Turn LB vs vk Ws W4) := hTk.trans (Turn.of_below hB4)
      clear hdx hdk hTk hAk hB4 z0 z2 hXk hff hck hfk
      go_wp2_with (go_at_call 45; refine (hC.out ()).mono ?_)
      rintro e w5 ⟨⟨rv, rfl⟩, v5, hA5, hT5⟩
      clear a0 a1 a2 a3 a4 a5 hC e0 e1 e2 e3 z3
      go_wp2
      refine ⟨⟨k + 1, v5, by omega, by go_num, ?_, HTk.out.trans hT5⟩, by simp [intOf]; omega⟩
      rw [HK2.out, ← List.append_assoc]
      exact hA5
    · obtain rfl : k = d.kids.length := by omega
      rw [List.take_length] at hAk
      clear hkk hXk
      have hth : thg d i = .hard i :: thgL d.kids (i + d.n) := by rw [HTH.out]; simp
      go_wp2
      go_end0
      refine ⟨⟨_, rfl⟩, vk, ?_, HTs.out.trans hTk⟩
      rw [hth]
      rw [← ht0, List.append_assoc] at hAk
      exact hAk
set_option maxRecDepth 100000 in
set_option maxHeartbeats 16000000 in
theorem add_k4 (d : Dc) (m : Nat) (i : Int) (f : Nat) (sa : Option Addr) (sc lo LB FB : Nat) (v : Value) (ts : List Th) (w : World) (hok : ∀ p ∈ pre d m, okP p = true) (hi0 : 0 ≤ i) (hi1 : i ≤ 1000 * (m : Int)) (hk : DAt w lo f sa d.kids) (hA : AddS lo LB FB v ts w) (hroom : ts.length + (pre d m).length ≤ 1000000)
    (ih : (∀ (x : Dc) (k : Nat) (fx : Nat) (sx : Option Addr) (cx : Nat) (vx : Value) (tx : List Th) (W : World), d.kids[k]? = some x → DAt W lo fx sx x.kids → AddS lo LB FB vx tx W → tx.length + (pre x (m + 1)).length ≤ 1000000 →
        Calls Try.prog 45 #[.agg #[.int .i64 x.kind, .string x.text, .int .i64 x.n, .slice sx x.kids.length cx], .int .i64 (i + d.n), .pointer (some ⟨LB, 0, none⟩), .pointer (some ⟨FB, 0, none⟩)] W fun e w' => (∃ rv, e = .returned rv) ∧ ∃ v', AddS lo LB FB v' (tx ++ thg x (i + d.n)) w' ∧ Turn LB vx v' W w')) (hkd : d.kind = 4) :
    Calls Try.prog 45 #[.agg #[.int .i64 d.kind, .string d.text, .int .i64 d.n, .slice sa d.kids.length sc], .int .i64 i, .pointer (some ⟨LB, 0, none⟩), .pointer (some ⟨FB, 0, none⟩)] w fun e w' => (∃ rv, e = .returned rv) ∧ ∃ v', AddS lo LB FB v' (ts ++ thg d i) w' ∧ Turn LB v v' w w' := by
  obtain ⟨i0, hinf, hz0, hz1, hz2⟩ := info_parts info88
  have hpre := pre_eq d m
  have hok1 := hok (d, m) (by rw [hpre]; simp)
  have hokd : okK d = true := by unfold okP at hok1; simp at hok1; exact hok1.2
  have hm200 : m ≤ 200 := by unfold okP at hok1; simp at hok1; exact hok1.1
  have hn := okK_n hokd
  have hlen : (pre d m).length = (preL d.kids (m + 1)).length + 1 := by rw [hpre]; simp
  have IH : Hid _ := ih
  have hthl := thgL_len d.kids (i + d.n) (m + 1)
  have HTH : Hid _ := thg_eq d i
  have HTK : Hid _ := fun k x h => @thgL_take d.kids k x h (i + d.n)
  have HPL : Hid _ := fun k x h => @preL_take_len d.kids k x h (m + 1)
  have HTT : Hid (∀ k, (thgL (d.kids.take k) (i + d.n)).length ≤ (preL (d.kids.take k) (m + 1)).length) := fun k => thgL_len _ _ _
  have hnL : IntKind.i64.wrap (i + d.n) = i + d.n := by rw [IntKind.wrap_i64]; omega
  have hkl := hk.len
  have hll := hA.lb.lt
  have hfl := hA.fb.lt
  have hloB := hA.lol
  have hloF := hA.lof
  obtain ⟨W1, hW1⟩ : ∃ W1, w.alloc (.cells #[.int .i64 d.kind, .string d.text, .int .i64 d.n, .slice sa d.kids.length sc] 24) = W1 := ⟨_, rfl⟩
  have s1 : W1.heap.size = w.heap.size + 1 := by rw [← hW1]; simp
  have hB1 : Below w.heap.size w W1 := by rw [← hW1]; exact (Below.refl _ _).alloc (Nat.le_refl _) _
  have hA1 := hA.below hB1
  have HT1 : Hid (Turn LB v v w W1) := Turn.of_below hB1
  have x0 : W1.cell? ⟨w.heap.size, 0, none⟩ = some (.int .i64 d.kind) := by rw [← hW1]; exact cell_new 0 rfl
  have x1 : W1.cell? ⟨w.heap.size, 1, none⟩ = some (.string d.text) := by rw [← hW1]; exact cell_new 1 rfl
  have x2 : W1.cell? ⟨w.heap.size, 2, none⟩ = some (.int .i64 d.n) := by rw [← hW1]; exact cell_new 2 rfl
  have x3 : W1.cell? ⟨w.heap.size, 3, none⟩ = some (.slice sa d.kids.length sc) := by rw [← hW1]; exact cell_new 3 rfl
  have hvlt := hA.row_lt
  obtain ⟨va, vc, rfl⟩ := row_slice hA.row
  have c1 := hA1.lb.cell
  have f1 := hA1.lb.frozen
  have hrow1 := hA1.row
  have hl1 := hA1.lb.lt
  have HKD : Hid (d.kind = 1 ∨ d.kind = 2 ∨ d.kind = 3 → d.kids = []) := fun h => okK_kids hokd h
  have HS1 : Hid _ := s1
  clear hok hok1 hokd hi0 hi1 hpre hA s1 ih
  generalize d.kind = kd at *
  subst hkd
  have hAs := hA1
  have HTs := HT1
  have HX : Hid (∀ q, W1.cell? ⟨w.heap.size, q, none⟩ = W1.cell? ⟨w.heap.size, q, none⟩) := fun _ => rfl
  have HWs : Hid (w.heap.size < W1.heap.size) := by show _ < _; have := HS1.out; omega
  have HNs : Hid ((Value.slice va ts.length vc).ownBlock ≠ some w.heap.size) := fun e => by have := (hvlt _ e).2; omega
  have ht0l : ts.length ≤ ts.length + 1 := by omega
  go_enter Try.func45, Try.ntmps45
  have hlos : lo ≤ W1.heap.size := by have := hAs.lb.lt; omega
  have hdw : DAt W1 lo f sa d.kids := HTs.out.dat hloB (fun b hb => (hvlt b hb).1) (by omega) hk
  have y0 : W1.cell? ⟨w.heap.size, 0, none⟩ = some (.int .i64 4) := (HX.out _).trans x0
  have y2 : W1.cell? ⟨w.heap.size, 2, none⟩ = some (.int .i64 d.n) := (HX.out _).trans x2
  have y3 : W1.cell? ⟨w.heap.size, 3, none⟩ = some (.slice sa d.kids.length sc) := (HX.out _).trans x3
  have hnlt := hAs.row_lt
  clear hrow1 hl1 hA1 hB1
  go_wp2
  go_loopw [49] (fun iv W => ∃ (k : Nat) (vk : Value), k ≤ d.kids.length ∧ iv = .int .i64 k ∧ AddS lo LB FB vk (ts ++ thgL (d.kids.take k) (i + d.n)) W ∧ Turn LB (.slice va ts.length vc) vk W1 W) (fun iv _ => d.kids.length - (intOf iv).toNat)
  case atStart => exact ⟨0, (.slice va ts.length vc), by omega, rfl, by rw [List.take_zero, thgL, List.append_nil]; exact hAs, Turn.refl _ _ _⟩
  case round =>
    obtain ⟨k, vk, hkk, rfl, hAk, hTk⟩ := hrel
    have hXk : ∀ q, wr.cell? ⟨w.heap.size, q, none⟩ = W1.cell? ⟨w.heap.size, q, none⟩ := fun q => World.cell?_of_block (a := ⟨w.heap.size, q, none⟩) (hTk.keep w.heap.size HWs.out (by omega) HNs.out)
    have z0 := (hXk 0).trans y0
    have z2 := (hXk 2).trans y2
    have z3 := (hXk 3).trans y3
    have hck := hAk.lb.cell
    have hfk := hAk.fb.cell
    have hff := hAk.lb.frozen
    by_cases hlt : k < d.kids.length
    · obtain ⟨x, hx⟩ : ∃ x, d.kids[k]? = some x := ⟨d.kids[k], by simp⟩
      have hdk : DAt wr lo f sa d.kids := hTk.dat hloB (fun b hb => (hnlt b hb).1) hlos hdw
      obtain ⟨b, o, rfl, hbl, sx, cx, e0, e1, e2, e3, hcx, hdx⟩ := hdk.one hx
      have hkI : (k : Int) < d.kids.length := by omega
      have hPL := HPL.out k x hx
      have hTT := HTT.out k
      obtain ⟨W4, hW4⟩ : ∃ W4, wr.alloc (.cells #[.int .i64 x.kind, .string x.text, .int .i64 x.n, .slice sx x.kids.length cx] 24) = W4 := ⟨_, rfl⟩
      have hB4 : Below wr.heap.size wr W4 := by rw [← hW4]; exact (Below.refl _ _).alloc (Nat.le_refl _) _
      have hC : Hid _ := fun (_ : Unit) => IH.out x k f sx cx vk (ts ++ thgL (d.kids.take k) (i + d.n)) W4 hx (hdx.keep (hB4.mono (by have := hAk.lb.lt; omega))) (hAk.below hB4) (by rw [List.length_append]; omega)
      have a0 : W4.cell? ⟨wr.heap.size, 0, none⟩ = some (.int .i64 x.kind) := by rw [← hW4]; exact cell_new 0 rfl
      have a1 : W4.cell? ⟨wr.heap.size, 1, none⟩ = some (.string x.text) := by rw [← hW4]; exact cell_new 1 rfl
      have a2 : W4.cell? ⟨wr.heap.size, 2, none⟩ = some (.int .i64 x.n) := by rw [← hW4]; exact cell_new 2 rfl
      have a3 : W4.cell? ⟨wr.heap.size, 3, none⟩ = some (.slice sx x.kids.length cx) := by rw [← hW4]; exact cell_new 3 rfl
      have a4 : W4.cell? ⟨FB, 0, none⟩ = _ := (hB4.cell (p := ⟨FB, 0, none⟩) hAk.fb.lt).trans hfk
      have a5 : W4.cell? ⟨w.heap.size, 2, none⟩ = some (.int .i64 d.n) := (hB4.cell (p := ⟨w.heap.size, 2, none⟩) (by have := hTk.size; have := HWs.out; show w.heap.size < _; omega)).trans z2
      have HK2 : Hid _ := HTK.out k x hx
      have HTk : Hid (Turn LB (.slice va ts.length vc) vk W1 W4) := hTk.trans (Turn.of_below hB4)
      clear hdx hdk hTk hAk hB4 z0 z2 hXk hff hck hfk
      go_wp2_with (go_at_call 45; refine (hC.out ()).mono ?_)
      rintro e w5 ⟨⟨rv, rfl⟩, v5, hA5, hT5⟩
      clear a0 a1 a2 a3 a4 a5 hC e0 e1 e2 e3 z3
      go_wp2
      refine ⟨⟨k + 1, v5, by omega, by go_num, ?_, HTk.out.trans hT5⟩, by simp [intOf]; omega⟩
      rw [HK2.out, ← List.append_assoc]
      exact hA5
    · obtain rfl : k = d.kids.length := by omega
      rw [List.take_length] at hAk
      clear hkk hXk
      have hth : thg d i = thgL d.kids (i + d.n) := by rw [HTH.out]; simp
      go_wp2
      go_end0
      refine ⟨⟨_, rfl⟩, vk, ?_, HTs.out.trans hTk⟩
      rw [hth]
      exact hAk
set_option maxRecDepth 100000 in
set_option maxHeartbeats 16000000 in
theorem add_k5 (d : Dc) (m : Nat) (i : Int) (f : Nat) (sa : Option Addr) (sc lo LB FB : Nat) (v : Value) (ts : List Th) (w : World) (hok : ∀ p ∈ pre d m, okP p = true) (hi0 : 0 ≤ i) (hi1 : i ≤ 1000 * (m : Int)) (hk : DAt w lo f sa d.kids) (hA : AddS lo LB FB v ts w) (hroom : ts.length + (pre d m).length ≤ 1000000)
    (ih : (∀ (x : Dc) (k : Nat) (fx : Nat) (sx : Option Addr) (cx : Nat) (vx : Value) (tx : List Th) (W : World), d.kids[k]? = some x → DAt W lo fx sx x.kids → AddS lo LB FB vx tx W → tx.length + (pre x (m + 1)).length ≤ 1000000 →
        Calls Try.prog 45 #[.agg #[.int .i64 x.kind, .string x.text, .int .i64 x.n, .slice sx x.kids.length cx], .int .i64 (i + d.n), .pointer (some ⟨LB, 0, none⟩), .pointer (some ⟨FB, 0, none⟩)] W fun e w' => (∃ rv, e = .returned rv) ∧ ∃ v', AddS lo LB FB v' (tx ++ thg x (i + d.n)) w' ∧ Turn LB vx v' W w')) (hkd : d.kind = 5) :
    Calls Try.prog 45 #[.agg #[.int .i64 d.kind, .string d.text, .int .i64 d.n, .slice sa d.kids.length sc], .int .i64 i, .pointer (some ⟨LB, 0, none⟩), .pointer (some ⟨FB, 0, none⟩)] w fun e w' => (∃ rv, e = .returned rv) ∧ ∃ v', AddS lo LB FB v' (ts ++ thg d i) w' ∧ Turn LB v v' w w' := by
  obtain ⟨i0, hinf, hz0, hz1, hz2⟩ := info_parts info88
  have hpre := pre_eq d m
  have hok1 := hok (d, m) (by rw [hpre]; simp)
  have hokd : okK d = true := by unfold okP at hok1; simp at hok1; exact hok1.2
  have hm200 : m ≤ 200 := by unfold okP at hok1; simp at hok1; exact hok1.1
  have hn := okK_n hokd
  have hlen : (pre d m).length = (preL d.kids (m + 1)).length + 1 := by rw [hpre]; simp
  have IH : Hid _ := ih
  have hthl := thgL_len d.kids (i + d.n) (m + 1)
  have HTH : Hid _ := thg_eq d i
  have HTK : Hid _ := fun k x h => @thgL_take d.kids k x h (i + d.n)
  have HPL : Hid _ := fun k x h => @preL_take_len d.kids k x h (m + 1)
  have HTT : Hid (∀ k, (thgL (d.kids.take k) (i + d.n)).length ≤ (preL (d.kids.take k) (m + 1)).length) := fun k => thgL_len _ _ _
  have hnL : IntKind.i64.wrap (i + d.n) = i + d.n := by rw [IntKind.wrap_i64]; omega
  have hkl := hk.len
  have hll := hA.lb.lt
  have hfl := hA.fb.lt
  have hloB := hA.lol
  have hloF := hA.lof
  obtain ⟨W1, hW1⟩ : ∃ W1, w.alloc (.cells #[.int .i64 d.kind, .string d.text, .int .i64 d.n, .slice sa d.kids.length sc] 24) = W1 := ⟨_, rfl⟩
  have s1 : W1.heap.size = w.heap.size + 1 := by rw [← hW1]; simp
  have hB1 : Below w.heap.size w W1 := by rw [← hW1]; exact (Below.refl _ _).alloc (Nat.le_refl _) _
  have hA1 := hA.below hB1
  have HT1 : Hid (Turn LB v v w W1) := Turn.of_below hB1
  have x0 : W1.cell? ⟨w.heap.size, 0, none⟩ = some (.int .i64 d.kind) := by rw [← hW1]; exact cell_new 0 rfl
  have x1 : W1.cell? ⟨w.heap.size, 1, none⟩ = some (.string d.text) := by rw [← hW1]; exact cell_new 1 rfl
  have x2 : W1.cell? ⟨w.heap.size, 2, none⟩ = some (.int .i64 d.n) := by rw [← hW1]; exact cell_new 2 rfl
  have x3 : W1.cell? ⟨w.heap.size, 3, none⟩ = some (.slice sa d.kids.length sc) := by rw [← hW1]; exact cell_new 3 rfl
  have hvlt := hA.row_lt
  obtain ⟨va, vc, rfl⟩ := row_slice hA.row
  have c1 := hA1.lb.cell
  have f1 := hA1.lb.frozen
  have hrow1 := hA1.row
  have hl1 := hA1.lb.lt
  have HKD : Hid (d.kind = 1 ∨ d.kind = 2 ∨ d.kind = 3 → d.kids = []) := fun h => okK_kids hokd h
  have HS1 : Hid _ := s1
  clear hok hok1 hokd hi0 hi1 hpre hA s1 ih
  generalize d.kind = kd at *
  subst hkd
  go_enter Try.func45, Try.ntmps45
  go_wp2_with (at_builtin; refine wpList_append_lies _ rfl _ _ 65 rfl lo 88 i0 _ 1 16 Try.underlying65 hinf hz0 hz1 hz2 rfl (by decide) (.slice va ts.length vc) ts.length (thsV ts) rfl (hrow1.alloc _) ⟨W1.heap.size, 0, none⟩ 1 1 [.iface 99 (.agg #[.int .i64 0])] rfl rfl ?ca1 ?ca2 (by decide) ?ca3 ?ca4 ?ca5 (W1.heap.size + 1) (by simp) ?_)
  try case ca1 => exact cell_one _ _ _
  case ca2 => first | rfl | (intro u hu; simp at hu; subst hu; rfl)
  case ca3 => unfold maxLen; omega
  case ca4 => omega
  case ca5 => have := HS1.out; simp; omega
  intro g cap w1 hown hgrow hat _
  have hBm : Below W1.heap.size W1 (W1.alloc (.cells #[.iface 99 (.agg #[.int .i64 0])] 88)) := (Below.refl _ _).alloc (Nat.le_refl _) _
  obtain ⟨hAs, hT2⟩ := hA1.push hBm (.group 0) hgrow hown (by rw [World.size_alloc]; exact hat)
  have q1 : w1.cell? ⟨LB, 0, none⟩ = some (.slice va ts.length vc) := (hgrow.cell_far ⟨LB, 0, none⟩ (by have := hBm.size; show LB < _; omega) (fun e => hA1.nl e.symm)).trans ((hBm.cell (p := ⟨LB, 0, none⟩) hl1).trans c1)
  have q2 : w1.frozen? ⟨LB, 0, none⟩ = false := (hgrow.frozen_far ⟨LB, 0, none⟩ (by have := hBm.size; show LB < _; omega) (fun e => hA1.nl e.symm)).trans ((hBm.frozen (p := ⟨LB, 0, none⟩) hl1).trans f1)
  obtain ⟨Ws, hWs⟩ : ∃ Ws, w1.setCell ⟨LB, 0, none⟩ (.slice (some ⟨g, 0, none⟩) (ts.length + 1) cap) = Ws := ⟨_, rfl⟩
  obtain ⟨vs, hvs⟩ : ∃ vs, Value.slice (some ⟨g, 0, none⟩) (ts.length + 1) cap = vs := ⟨_, rfl⟩
  obtain ⟨t0, ht0⟩ : ∃ t0 : List Th, ts ++ [.group 0] = t0 := ⟨_, rfl⟩
  rw [hWs, hvs, ht0] at hAs
  rw [hWs, hvs] at hT2
  have HTs : Hid (Turn LB (.slice va ts.length vc) vs w Ws) := HT1.out.trans hT2
  have HX : Hid (∀ q, Ws.cell? ⟨w.heap.size, q, none⟩ = W1.cell? ⟨w.heap.size, q, none⟩) := fun q => World.cell?_of_block (a := ⟨w.heap.size, q, none⟩) (hT2.keep w.heap.size (by have := HS1.out; omega) (by omega) (fun e => by have := (hvlt _ e).2; omega))
  have HWs : Hid (w.heap.size < Ws.heap.size) := by show _ < _; have := hT2.size; have := HS1.out; omega
  have HNs : Hid (vs.ownBlock ≠ some w.heap.size) := fun e => by
    rcases hT2.own _ e with h | h
    · have := (hvlt _ h).2; omega
    · have := HS1.out; omega
  have ht0l : t0.length = ts.length + 1 := by rw [← ht0]; simp
  clear hown hgrow hat hT2 hvs
  have hlos : lo ≤ Ws.heap.size := by have := hAs.lb.lt; omega
  have hdw : DAt Ws lo f sa d.kids := HTs.out.dat hloB (fun b hb => (hvlt b hb).1) (by omega) hk
  have y0 : Ws.cell? ⟨w.heap.size, 0, none⟩ = some (.int .i64 5) := (HX.out _).trans x0
  have y2 : Ws.cell? ⟨w.heap.size, 2, none⟩ = some (.int .i64 d.n) := (HX.out _).trans x2
  have y3 : Ws.cell? ⟨w.heap.size, 3, none⟩ = some (.slice sa d.kids.length sc) := (HX.out _).trans x3
  have hnlt := hAs.row_lt
  clear x0 x1 x2 x3 c1 f1 hrow1 hl1 hA1 hB1 hW1
  go_wp2
  go_loopw [49] (fun iv W => ∃ (k : Nat) (vk : Value), k ≤ d.kids.length ∧ iv = .int .i64 k ∧ AddS lo LB FB vk (t0 ++ thgL (d.kids.take k) (i + d.n)) W ∧ Turn LB vs vk Ws W) (fun iv _ => d.kids.length - (intOf iv).toNat)
  case atStart => exact ⟨0, vs, by omega, rfl, by rw [List.take_zero, thgL, List.append_nil]; exact hAs, Turn.refl _ _ _⟩
  case round =>
    obtain ⟨k, vk, hkk, rfl, hAk, hTk⟩ := hrel
    have hXk : ∀ q, wr.cell? ⟨w.heap.size, q, none⟩ = Ws.cell? ⟨w.heap.size, q, none⟩ := fun q => World.cell?_of_block (a := ⟨w.heap.size, q, none⟩) (hTk.keep w.heap.size HWs.out (by omega) HNs.out)
    have z0 := (hXk 0).trans y0
    have z2 := (hXk 2).trans y2
    have z3 := (hXk 3).trans y3
    have hck := hAk.lb.cell
    have hfk := hAk.fb.cell
    have hff := hAk.lb.frozen
    by_cases hlt : k < d.kids.length
    · obtain ⟨x, hx⟩ : ∃ x, d.kids[k]? = some x := ⟨d.kids[k], by simp⟩
      have hdk : DAt wr lo f sa d.kids := hTk.dat hloB (fun b hb => (hnlt b hb).1) hlos hdw
      obtain ⟨b, o, rfl, hbl, sx, cx, e0, e1, e2, e3, hcx, hdx⟩ := hdk.one hx
      have hkI : (k : Int) < d.kids.length := by omega
      have hPL := HPL.out k x hx
      have hTT := HTT.out k
      obtain ⟨W4, hW4⟩ : ∃ W4, wr.alloc (.cells #[.int .i64 x.kind, .string x.text, .int .i64 x.n, .slice sx x.kids.length cx] 24) = W4 := ⟨_, rfl⟩
      have hB4 : Below wr.heap.size wr W4 := by rw [← hW4]; exact (Below.refl _ _).alloc (Nat.le_refl _) _
      have hC : Hid _ := fun (_ : Unit) => IH.out x k f sx cx vk (t0 ++ thgL (d.kids.take k) (i + d.n)) W4 hx (hdx.keep (hB4.mono (by have := hAk.lb.lt; omega))) (hAk.below hB4) (by rw [List.length_append]; omega)
      have a0 : W4.cell? ⟨wr.heap.size, 0, none⟩ = some (.int .i64 x.kind) := by rw [← hW4]; exact cell_new 0 rfl
      have a1 : W4.cell? ⟨wr.heap.size, 1, none⟩ = some (.string x.text) := by rw [← hW4]; exact cell_new 1 rfl
      have a2 : W4.cell? ⟨wr.heap.size, 2, none⟩ = some (.int .i64 x.n) := by rw [← hW4]; exact cell_new 2 rfl
      have a3 : W4.cell? ⟨wr.heap.size, 3, none⟩ = some (.slice sx x.kids.length cx) := by rw [← hW4]; exact cell_new 3 rfl
      have a4 : W4.cell? ⟨FB, 0, none⟩ = _ := (hB4.cell (p := ⟨FB, 0, none⟩) hAk.fb.lt).trans hfk
      have a5 : W4.cell? ⟨w.heap.size, 2, none⟩ = some (.int .i64 d.n) := (hB4.cell (p := ⟨w.heap.size, 2, none⟩) (by have := hTk.size; have := HWs.out; show w.heap.size < _; omega)).trans z2
      have HK2 : Hid _ := HTK.out k x hx
      have HTk : Hid (Turn LB vs vk Ws W4) := hTk.trans (Turn.of_below hB4)
      clear hdx hdk hTk hAk hB4 z0 z2 hXk hff hck hfk
      go_wp2_with (go_at_call 45; refine (hC.out ()).mono ?_)
      rintro e w5 ⟨⟨rv, rfl⟩, v5, hA5, hT5⟩
      clear a0 a1 a2 a3 a4 a5 hC e0 e1 e2 e3 z3
      go_wp2
      refine ⟨⟨k + 1, v5, by omega, by go_num, ?_, HTk.out.trans hT5⟩, by simp [intOf]; omega⟩
      rw [HK2.out, ← List.append_assoc]
      exact hA5
    · obtain rfl : k = d.kids.length := by omega
      rw [List.take_length] at hAk
      clear hkk hXk
      obtain ⟨r9, hr9⟩ : ∃ r9, thgL d.kids (i + d.n) = r9 := ⟨_, rfl⟩
      have hth : thg d i = .group r9.length :: r9 := by rw [HTH.out, ← hr9]; simp
      rw [hr9] at hAk hthl
      obtain ⟨n9, hn9⟩ : ∃ n9, (t0 ++ r9).length = n9 := ⟨_, rfl⟩
      have hn9' : n9 = ts.length + 1 + r9.length := by rw [← hn9, List.length_append, ht0l]
      have hrk := hAk.row
      rw [hn9] at hrk
      obtain ⟨g9, c9, rfl, _, hg9, hc9⟩ := row_at hrk (by omega)
      have hs1 : IntKind.i64.wrap ((n9 : Int) - (ts.length : Int)) = (r9.length : Int) + 1 := by rw [IntKind.wrap_i64]; omega
      have hs2 : IntKind.i64.wrap ((r9.length : Int) + 1 - 1) = (r9.length : Int) := by rw [IntKind.wrap_i64]; omega
      have hs3 : (ts.length : Int) < (n9 : Int) := by omega
      have hcell : (wr.cell? ⟨g9, ts.length, none⟩).isSome = true := by
        rw [hrk.cellAt ts.length (by omega)]
        have := hrk.1
        rw [List.getElem?_eq_getElem (by omega)]
        rfl
      obtain ⟨u9, hu9⟩ := Option.isSome_iff_exists.1 hcell
      have hfr := hrk.frozenAt ts.length
      rw [← ht0] at hAk
      have hfix := hAk.fix (by rw [← hn9, ← ht0]) r9.length
      have HF : Hid _ := hfix
      have HTk : Hid _ := hTk
      clear hfix hAk hTk hrk hcell hc9
      go_wp2
      go_end0
      rw [show ((ts.length : Int) + 1 + (r9.length : Int) - (ts.length : Int) - 1) = (r9.length : Int) by omega]
      refine ⟨⟨_, rfl⟩, _, ?_, (HTs.out.trans HTk.out).trans HF.out.2⟩
      rw [hth]
      exact HF.out.1
set_option maxRecDepth 100000 in
set_option maxHeartbeats 16000000 in
theorem add_k6 (d : Dc) (m : Nat) (i : Int) (f : Nat) (sa : Option Addr) (sc lo LB FB : Nat) (v : Value) (ts : List Th) (w : World) (hok : ∀ p ∈ pre d m, okP p = true) (hi0 : 0 ≤ i) (hi1 : i ≤ 1000 * (m : Int)) (hk : DAt w lo f sa d.kids) (hA : AddS lo LB FB v ts w) (hroom : ts.length + (pre d m).length ≤ 1000000)
    (ih : (∀ (x : Dc) (k : Nat) (fx : Nat) (sx : Option Addr) (cx : Nat) (vx : Value) (tx : List Th) (W : World), d.kids[k]? = some x → DAt W lo fx sx x.kids → AddS lo LB FB vx tx W → tx.length + (pre x (m + 1)).length ≤ 1000000 →
        Calls Try.prog 45 #[.agg #[.int .i64 x.kind, .string x.text, .int .i64 x.n, .slice sx x.kids.length cx], .int .i64 (i + d.n), .pointer (some ⟨LB, 0, none⟩), .pointer (some ⟨FB, 0, none⟩)] W fun e w' => (∃ rv, e = .returned rv) ∧ ∃ v', AddS lo LB FB v' (tx ++ thg x (i + d.n)) w' ∧ Turn LB vx v' W w')) (hkd : d.kind = 6) :
    Calls Try.prog 45 #[.agg #[.int .i64 d.kind, .string d.text, .int .i64 d.n, .slice sa d.kids.length sc], .int .i64 i, .pointer (some ⟨LB, 0, none⟩), .pointer (some ⟨FB, 0, none⟩)] w fun e w' => (∃ rv, e = .returned rv) ∧ ∃ v', AddS lo LB FB v' (ts ++ thg d i) w' ∧ Turn LB v v' w w' := by
  obtain ⟨i0, hinf, hz0, hz1, hz2⟩ := info_parts info88
  have hpre := pre_eq d m
  have hok1 := hok (d, m) (by rw [hpre]; simp)
  have hokd : okK d = true := by unfold okP at hok1; simp at hok1; exact hok1.2
  have hm200 : m ≤ 200 := by unfold okP at hok1; simp at hok1; exact hok1.1
  have hn := okK_n hokd
  have hlen : (pre d m).length = (preL d.kids (m + 1)).length + 1 := by rw [hpre]; simp
  have IH : Hid _ := ih
  have hthl := thgL_len d.kids (i + d.n) (m + 1)
  have HTH : Hid _ := thg_eq d i
  have HTK : Hid _ := fun k x h => @thgL_take d.kids k x h (i + d.n)
  have HPL : Hid _ := fun k x h => @preL_take_len d.kids k x h (m + 1)
  have HTT : Hid (∀ k, (thgL (d.kids.take k) (i + d.n)).length ≤ (preL (d.kids.take k) (m + 1)).length) := fun k => thgL_len _ _ _
  have hnL : IntKind.i64.wrap (i + d.n) = i + d.n := by rw [IntKind.wrap_i64]; omega
  have hkl := hk.len
  have hll := hA.lb.lt
  have hfl := hA.fb.lt
  have hloB := hA.lol
  have hloF := hA.lof
  obtain ⟨W1, hW1⟩ : ∃ W1, w.alloc (.cells #[.int .i64 d.kind, .string d.text, .int .i64 d.n, .slice sa d.kids.length sc] 24) = W1 := ⟨_, rfl⟩
  have s1 : W1.heap.size = w.heap.size + 1 := by rw [← hW1]; simp
  have hB1 : Below w.heap.size w W1 := by rw [← hW1]; exact (Below.refl _ _).alloc (Nat.le_refl _) _
  have hA1 := hA.below hB1
  have HT1 : Hid (Turn LB v v w W1) := Turn.of_below hB1
  have x0 : W1.cell? ⟨w.heap.size, 0, none⟩ = some (.int .i64 d.kind) := by rw [← hW1]; exact cell_new 0 rfl
  have x1 : W1.cell? ⟨w.heap.size, 1, none⟩ = some (.string d.text) := by rw [← hW1]; exact cell_new 1 rfl
  have x2 : W1.cell? ⟨w.heap.size, 2, none⟩ = some (.int .i64 d.n) := by rw [← hW1]; exact cell_new 2 rfl
  have x3 : W1.cell? ⟨w.heap.size, 3, none⟩ = some (.slice sa d.kids.length sc) := by rw [← hW1]; exact cell_new 3 rfl
  have hvlt := hA.row_lt
  obtain ⟨va, vc, rfl⟩ := row_slice hA.row
  have c1 := hA1.lb.cell
  have f1 := hA1.lb.frozen
  have hrow1 := hA1.row
  have hl1 := hA1.lb.lt
  have HKD : Hid (d.kind = 1 ∨ d.kind = 2 ∨ d.kind = 3 → d.kids = []) := fun h => okK_kids hokd h
  have HS1 : Hid _ := s1
  clear hok hok1 hokd hi0 hi1 hpre hA s1 ih
  generalize d.kind = kd at *
  subst hkd
  have hAs := hA1
  have HTs := HT1
  have HX : Hid (∀ q, W1.cell? ⟨w.heap.size, q, none⟩ = W1.cell? ⟨w.heap.size, q, none⟩) := fun _ => rfl
  have HWs : Hid (w.heap.size < W1.heap.size) := by show _ < _; have := HS1.out; omega
  have HNs : Hid ((Value.slice va ts.length vc).ownBlock ≠ some w.heap.size) := fun e => by have := (hvlt _ e).2; omega
  have ht0l : ts.length ≤ ts.length + 1 := by omega
  go_enter Try.func45, Try.ntmps45
  have hlos : lo ≤ W1.heap.size := by have := hAs.lb.lt; omega
  have hdw : DAt W1 lo f sa d.kids := HTs.out.dat hloB (fun b hb => (hvlt b hb).1) (by omega) hk
  have y0 : W1.cell? ⟨w.heap.size, 0, none⟩ = some (.int .i64 6) := (HX.out _).trans x0
  have y2 : W1.cell? ⟨w.heap.size, 2, none⟩ = some (.int .i64 d.n) := (HX.out _).trans x2
  have y3 : W1.cell? ⟨w.heap.size, 3, none⟩ = some (.slice sa d.kids.length sc) := (HX.out _).trans x3
  have hnlt := hAs.row_lt
  clear hrow1 hl1 hA1 hB1
  go_wp2
  go_loopw [49] (fun iv W => ∃ (k : Nat) (vk : Value), k ≤ d.kids.length ∧ iv = .int .i64 k ∧ AddS lo LB FB vk (ts ++ thgL (d.kids.take k) (i + d.n)) W ∧ Turn LB (.slice va ts.length vc) vk W1 W) (fun iv _ => d.kids.length - (intOf iv).toNat)
  case atStart => exact ⟨0, (.slice va ts.length vc), by omega, rfl, by rw [List.take_zero, thgL, List.append_nil]; exact hAs, Turn.refl _ _ _⟩
  case round =>
    obtain ⟨k, vk, hkk, rfl, hAk, hTk⟩ := hrel
    have hXk : ∀ q, wr.cell? ⟨w.heap.size, q, none⟩ = W1.cell? ⟨w.heap.size, q, none⟩ := fun q => World.cell?_of_block (a := ⟨w.heap.size, q, none⟩) (hTk.keep w.heap.size HWs.out (by omega) HNs.out)
    have z0 := (hXk 0).trans y0
    have z2 := (hXk 2).trans y2
    have z3 := (hXk 3).trans y3
    have hck := hAk.lb.cell
    have hfk := hAk.fb.cell
    have hff := hAk.lb.frozen
    by_cases hlt : k < d.kids.length
    · obtain ⟨x, hx⟩ : ∃ x, d.kids[k]? = some x := ⟨d.kids[k], by simp⟩
      have hdk : DAt wr lo f sa d.kids := hTk.dat hloB (fun b hb => (hnlt b hb).1) hlos hdw
      obtain ⟨b, o, rfl, hbl, sx, cx, e0, e1, e2, e3, hcx, hdx⟩ := hdk.one hx
      have hkI : (k : Int) < d.kids.length := by omega
      have hPL := HPL.out k x hx
      have hTT := HTT.out k
      obtain ⟨W4, hW4⟩ : ∃ W4, wr.alloc (.cells #[.int .i64 x.kind, .string x.text, .int .i64 x.n, .slice sx x.kids.length cx] 24) = W4 := ⟨_, rfl⟩
      have hB4 : Below wr.heap.size wr W4 := by rw [← hW4]; exact (Below.refl _ _).alloc (Nat.le_refl _) _
      have hC : Hid _ := fun (_ : Unit) => IH.out x k f sx cx vk (ts ++ thgL (d.kids.take k) (i + d.n)) W4 hx (hdx.keep (hB4.mono (by have := hAk.lb.lt; omega))) (hAk.below hB4) (by rw [List.length_append]; omega)
      have a0 : W4.cell? ⟨wr.heap.size, 0, none⟩ = some (.int .i64 x.kind) := by rw [← hW4]; exact cell_new 0 rfl
      have a1 : W4.cell? ⟨wr.heap.size, 1, none⟩ = some (.string x.text) := by rw [← hW4]; exact cell_new 1 rfl
      have a2 : W4.cell? ⟨wr.heap.size, 2, none⟩ = some (.int .i64 x.n) := by rw [← hW4]; exact cell_new 2 rfl
      have a3 : W4.cell? ⟨wr.heap.size, 3, none⟩ = some (.slice sx x.kids.length cx) := by rw [← hW4]; exact cell_new 3 rfl
      have a4 : W4.cell? ⟨FB, 0, none⟩ = _ := (hB4.cell (p := ⟨FB, 0, none⟩) hAk.fb.lt).trans hfk
      have a5 : W4.cell? ⟨w.heap.size, 2, none⟩ = some (.int .i64 d.n) := (hB4.cell (p := ⟨w.heap.size, 2, none⟩) (by have := hTk.size; have := HWs.out; show w.heap.size < _; omega)).trans z2
      have HK2 : Hid _ := HTK.out k x hx
      have HTk : Hid (Turn LB (.slice va ts.length vc) vk W1 W4) := hTk.trans (Turn.of_below hB4)
      clear hdx hdk hTk hAk hB4 z0 z2 hXk hff hck hfk
      go_wp2_with (go_at_call 45; refine (hC.out ()).mono ?_)
      rintro e w5 ⟨⟨rv, rfl⟩, v5, hA5, hT5⟩
      clear a0 a1 a2 a3 a4 a5 hC e0 e1 e2 e3 z3
      go_wp2
      refine ⟨⟨k + 1, v5, by omega, by go_num, ?_, HTk.out.trans hT5⟩, by simp [intOf]; omega⟩
      rw [HK2.out, ← List.append_assoc]
      exact hA5
    · obtain rfl : k = d.kids.length := by omega
      rw [List.take_length] at hAk
      clear hkk hXk
      have hth : thg d i = thgL d.kids (i + d.n) := by rw [HTH.out]; simp
      go_wp2
      go_end0
      refine ⟨⟨_, rfl⟩, vk, ?_, HTs.out.trans hTk⟩
      rw [hth]
      exact hAk
theorem add_any : ∀ (N : Nat) (d : Dc) (m : Nat) (i : Int) (f : Nat) (sa : Option Addr) (sc lo LB FB : Nat) (v : Value) (ts : List Th) (w : World), (pre d m).length ≤ N → (∀ p ∈ pre d m, okP p = true) → 0 ≤ i → i ≤ 1000 * (m : Int) → DAt w lo f sa d.kids → AddS lo LB FB v ts w → ts.length + (pre d m).length ≤ 1000000 →
    Calls Try.prog 45 #[.agg #[.int .i64 d.kind, .string d.text, .int .i64 d.n, .slice sa d.kids.length sc], .int .i64 i, .pointer (some ⟨LB, 0, none⟩), .pointer (some ⟨FB, 0, none⟩)] w fun e w' => (∃ rv, e = .returned rv) ∧ ∃ v', AddS lo LB FB v' (ts ++ thg d i) w' ∧ Turn LB v v' w w'
  | 0, d, m, _, _, _, _, _, _, _, _, _, _, h, _, _, _, _, _, _ => by have := pre_len_pos d m; omega
  | N + 1, d, m, i, f, sa, sc, lo, LB, FB, v, ts, w, hN, hok, hi0, hi1, hk, hA, hroom => by
    have hpre := pre_eq d m
    have hok1 := hok (d, m) (by rw [hpre]; simp)
    have hokd : okK d = true := by unfold okP at hok1; simp at hok1; exact hok1.2
    have hn := okK_n hokd
    have hlen : (pre d m).length = (preL d.kids (m + 1)).length + 1 := by rw [hpre]; simp
    have ih : (∀ (x : Dc) (k : Nat) (fx : Nat) (sx : Option Addr) (cx : Nat) (vx : Value) (tx : List Th) (W : World), d.kids[k]? = some x → DAt W lo fx sx x.kids → AddS lo LB FB vx tx W → tx.length + (pre x (m + 1)).length ≤ 1000000 →
        Calls Try.prog 45 #[.agg #[.int .i64 x.kind, .string x.text, .int .i64 x.n, .slice sx x.kids.length cx], .int .i64 (i + d.n), .pointer (some ⟨LB, 0, none⟩), .pointer (some ⟨FB, 0, none⟩)] W fun e w' => (∃ rv, e = .returned rv) ∧ ∃ v', AddS lo LB FB v' (tx ++ thg x (i + d.n)) w' ∧ Turn LB vx v' W w') := fun x k fx sx cx vx tx W hx h1 h2 h3 => by
      have hle := preL_take_len hx (m + 1)
      exact add_any N x (m + 1) (i + d.n) fx sx cx lo LB FB vx tx W (by omega) (fun p hp => hok p (by rw [hpre]; exact List.mem_cons_of_mem _ (preL_mem (List.mem_of_getElem? hx) hp))) (by omega) (by push_cast; omega) h1 h2 h3
    rcases okK_kind hokd with h | h | h | h | h | h
    · exact add_k1 d m i f sa sc lo LB FB v ts w hok hi0 hi1 hk hA hroom ih h
    · exact add_k2 d m i f sa sc lo LB FB v ts w hok hi0 hi1 hk hA hroom ih h
    · exact add_k3 d m i f sa sc lo LB FB v ts w hok hi0 hi1 hk hA hroom ih h
    · exact add_k4 d m i f sa sc lo LB FB v ts w hok hi0 hi1 hk hA hroom ih h
    · exact add_k5 d m i f sa sc lo LB FB v ts w hok hi0 hi1 hk hA hroom ih h
    · exact add_k6 d m i f sa sc lo LB FB v ts w hok hi0 hi1 hk hA hroom ih h
end Go.Proofs.Ytbmejfcbladofaa
