/- A term's text, read: the whole of it; what is given up is caught. -/
import Derived.Test.YtlkcadibjmfmcaaDoorQh
namespace Go.Proofs.YtlkcadibjmfmcaaDoor
open Go.RowKit Go.Shelf

/-- Reading a term comes to what it should. -/
theorem term_any (R : Nat) (s : ByteArray) (hm : s.size ≤ 65536) : ∀ f p m w, RdAt w R s p → p ≤ s.size → 2 * (s.size - p) < f → m ≤ 202 → TCalls R s f p m w := by
  intro f
  induction f using Nat.strongRecOn with
  | ind f ih =>
    intro p m w h hp hf hm2
    obtain ⟨f', rfl⟩ : ∃ f', f = f' + 1 := ⟨f - 1, by omega⟩
    exact term_step R s hm f' (fun g hg p m w a b c d => ih g (by omega) p m w a b c d) p m w h hp hf hm2
set_option maxRecDepth 100000 in
set_option maxHeartbeats 4000000 in
theorem caught_none (tb fb : Nat) (w : World) : CallsD Tryd.prog 50 #[.pointer (some ⟨tb, 0, none⟩), .pointer (some ⟨fb, 0, none⟩)] .returning w fun e u' w' => e = .returned (.tuple #[]) ∧ u' = .returning ∧ w' = w := by
  refine callsD_of_wpS Tryd.func50 rfl fun c₀ cs hu => ?_
  apply wpS_seq
  apply wpS_region
  simp [wpOpsS, go_sem, recoverD, hu, Tryd.ntmps50, Exit.thenS]
  refine wpS_of_wp ?_
  simp only [Array.replicate_succ, Array.replicate_zero, List.push_toArray, List.append_toArray, List.nil_append, List.cons_append, List.setIfInBounds_toArray, List.set_cons_zero, List.set_cons_succ]
  go_wp2
  cases c₀
  simp_all [bodyPostS, results, Tryd.results50]
theorem assert_fault (v : Value) (w : World) : (Instr.typeAssert (.iface 44 v) 20 44 true).run Tryd.prog w = .ok (.tuple #[v, .bool true]) w := by kernel_rfl
theorem set_step {W A : World} {b o : Nat} {u : Value} (h : W.setCell ⟨b, o, none⟩ u = A) : (∀ k, k ≠ b → A.heap[k]? = W.heap[k]?) ∧ A.os = W.os ∧ A.tape = W.tape ∧ A.output = W.output ∧ A.heap.size = W.heap.size := by
  subst h
  exact ⟨fun k hk => Below.heap_setCell W ⟨b, o, none⟩ u k hk, rfl, rfl, rfl, by simp [World.setCell]⟩
/-- Two boxes are written over, nothing else. -/
theorem two_world (tb fb : Nat) (c0 c1 c2 c3 u0 u1 : Value) (w W : World) (cs fs : Array Value) (hcs : cs.size = 4) (hfs : fs.size = 2) (hne : tb ≠ fb) (HB : Below w.heap.size w W) (hT : Blk W tb 25 cs) (hF : Blk W fb 44 fs) (X : World)
    (hX : X = (((((W.setCell ⟨tb, 0, none⟩ c0).setCell ⟨tb, 1, none⟩ c1).setCell ⟨tb, 2, none⟩ c2).setCell ⟨tb, 3, none⟩ c3).setCell ⟨fb, 0, none⟩ u0).setCell ⟨fb, 1, none⟩ u1) :
    Blk X tb 25 #[c0, c1, c2, c3] ∧ Blk X fb 44 #[u0, u1] ∧ X.os = w.os ∧ X.tape = w.tape ∧ X.output = w.output ∧ W.heap.size = X.heap.size ∧ (∀ b, b ≠ tb → b ≠ fb → X.heap[b]? = W.heap[b]?) ∧ ∀ b, b < w.heap.size → b ≠ tb → b ≠ fb → X.heap[b]? = w.heap[b]? := by
  obtain ⟨a0, a1, a2, a3, rfl⟩ : ∃ a b c d, cs = #[a, b, c, d] := by
    rcases cs with ⟨l⟩
    match l, hcs with
    | [a, b, c, d], _ => exact ⟨a, b, c, d, rfl⟩
  obtain ⟨b0, b1, rfl⟩ : ∃ a b, fs = #[a, b] := by
    rcases fs with ⟨l⟩
    match l, hfs with
    | [a, b], _ => exact ⟨a, b, rfl⟩
  obtain ⟨A1, e1⟩ : ∃ A, W.setCell ⟨tb, 0, none⟩ c0 = A := ⟨_, rfl⟩
  obtain ⟨A2, e2⟩ : ∃ A, A1.setCell ⟨tb, 1, none⟩ c1 = A := ⟨_, rfl⟩
  obtain ⟨A3, e3⟩ : ∃ A, A2.setCell ⟨tb, 2, none⟩ c2 = A := ⟨_, rfl⟩
  obtain ⟨A4, e4⟩ : ∃ A, A3.setCell ⟨tb, 3, none⟩ c3 = A := ⟨_, rfl⟩
  obtain ⟨A5, e5⟩ : ∃ A, A4.setCell ⟨fb, 0, none⟩ u0 = A := ⟨_, rfl⟩
  rw [e1, e2, e3, e4, e5] at hX
  have e6 := hX.symm
  have T1 := hT.set 0 c0
  rw [e1] at T1
  have T2 := T1.set 1 c1
  rw [e2] at T2
  have T3 := T2.set 2 c2
  rw [e3] at T3
  have T4 := T3.set 3 c3
  rw [e4] at T4
  have T5 := T4.put fb 0 u0 hne
  rw [e5] at T5
  have T6 := T5.put fb 1 u1 hne
  rw [e6] at T6
  have F1 := hF.put tb 0 c0 hne.symm
  rw [e1] at F1
  have F2 := F1.put tb 1 c1 hne.symm
  rw [e2] at F2
  have F3 := F2.put tb 2 c2 hne.symm
  rw [e3] at F3
  have F4 := F3.put tb 3 c3 hne.symm
  rw [e4] at F4
  have F5 := F4.set 0 u0
  rw [e5] at F5
  have F6 := F5.set 1 u1
  rw [e6] at F6
  obtain ⟨k1, o1, p1, q1, r1⟩ := set_step e1
  obtain ⟨k2, o2, p2, q2, r2⟩ := set_step e2
  obtain ⟨k3, o3, p3, q3, r3⟩ := set_step e3
  obtain ⟨k4, o4, p4, q4, r4⟩ := set_step e4
  obtain ⟨k5, o5, p5, q5, r5⟩ := set_step e5
  obtain ⟨k6, o6, p6, q6, r6⟩ := set_step e6
  have hk : ∀ b, b ≠ tb → b ≠ fb → X.heap[b]? = W.heap[b]? := fun b h1 h2 => (k6 b h2).trans ((k5 b h2).trans ((k4 b h1).trans ((k3 b h1).trans ((k2 b h1).trans (k1 b h1)))))
  clear e1 e2 e3 e4 e5 e6 hX
  exact ⟨T6, F6, (o6.trans (o5.trans (o4.trans (o3.trans (o2.trans o1))))).trans HB.os, (p6.trans (p5.trans (p4.trans (p3.trans (p2.trans p1))))).trans HB.tape, (q6.trans (q5.trans (q4.trans (q3.trans (q2.trans q1))))).trans HB.output, by omega, hk, fun b hb h1 h2 => (hk b h1 h2).trans (HB.block b hb)⟩
set_option maxRecDepth 100000 in
set_option maxHeartbeats 4000000 in
theorem caught_fault (tb fb : Nat) (p c : Nat) (v0 v1 v2 v3 u0 u1 : Value) (w : World) (hne : tb ≠ fb) (hT : Blk w tb 25 #[v0, v1, v2, v3]) (hF : Blk w fb 44 #[u0, u1]) :
    CallsD Tryd.prog 50 #[.pointer (some ⟨tb, 0, none⟩), .pointer (some ⟨fb, 0, none⟩)] (.panicking [{ v := .iface 44 (.agg #[.int .i64 (p : Int), .int .i64 (c : Int)]), recovered := false }]) w fun e u' w' => e = .returned (.tuple #[]) ∧ u' = .panicking [{ v := .iface 44 (.agg #[.int .i64 (p : Int), .int .i64 (c : Int)]), recovered := true }] ∧
      Blk w' tb 25 #[.int .i64 0, .string ⟨#[]⟩, .slice none 0 0, .slice none 0 0] ∧ Blk w' fb 44 #[.int .i64 (p : Int), .int .i64 (c : Int)] ∧
      w'.os = w.os ∧ w'.tape = w.tape ∧ w'.output = w.output ∧ w.heap.size ≤ w'.heap.size ∧ ∀ b, b < w.heap.size → b ≠ tb → b ≠ fb → w'.heap[b]? = w.heap[b]? := by
  have hta := assert_fault
  have htl := hT.lt
  have hfl := hF.lt
  refine callsD_of_wpS Tryd.func50 rfl fun c₀ cs hu => ?_
  apply wpS_seq
  apply wpS_region
  simp [wpOpsS, go_sem, recoverD, hu, Tryd.ntmps50, Exit.thenS]
  refine wpS_of_wp ?_
  simp only [Array.replicate_succ, Array.replicate_zero, List.push_toArray, List.append_toArray, List.nil_append, List.cons_append, List.setIfInBounds_toArray, List.set_cons_zero, List.set_cons_succ]
  have HTF : Hid _ := (⟨hT, hF⟩ : _ ∧ _)
  clear hT hF
  go_wp2
  obtain ⟨W, hW⟩ : ∃ W, w.alloc (.cells #[.int .i64 (p : Int), .int .i64 (c : Int)] 44) = W := ⟨_, rfl⟩
  have hB : Below w.heap.size w W := by rw [← hW]; exact (Below.refl _ _).alloc (Nat.le_refl _) _
  have n0 : W.cell? ⟨w.heap.size, 0, none⟩ = some (.int .i64 (p : Int)) := by rw [← hW]; exact cell_new 0 rfl
  have n1 : W.cell? ⟨w.heap.size, 1, none⟩ = some (.int .i64 (c : Int)) := by rw [← hW]; exact cell_new 1 rfl
  rw [hW]
  have hT := HTF.out.1.after hB
  have hF := HTF.out.2.after hB
  have t0 := hT.cell 0 rfl
  have t1 := hT.cell 1 rfl
  have t2 := hT.cell 2 rfl
  have t3 := hT.cell 3 rfl
  have g0 := hF.cell 0 rfl
  have g1 := hF.cell 1 rfl
  have z0 := hT.frozen 0
  have z1 := hT.frozen 1
  have z2 := hT.frozen 2
  have z3 := hT.frozen 3
  have y0 := hF.frozen 0
  have y1 := hF.frozen 1
  have HB : Hid _ := hB
  have htn : tb ≠ w.heap.size := by omega
  have hfn : fb ≠ w.heap.size := by omega
  have HF : Hid (∀ X, X = ((((((W.setCell ⟨tb, 0, none⟩ (.int .i64 0)).setCell ⟨tb, 1, none⟩ (.string ⟨#[]⟩)).setCell ⟨tb, 2, none⟩ (.slice none 0 0)).setCell ⟨tb, 3, none⟩ (.slice none 0 0)).setCell ⟨fb, 0, none⟩ (.int .i64 (p : Int))).setCell ⟨fb, 1, none⟩ (.int .i64 (c : Int))).drew → Blk X tb 25 #[.int .i64 0, .string ⟨#[]⟩, .slice none 0 0, .slice none 0 0] ∧ Blk X fb 44 #[.int .i64 (p : Int), .int .i64 (c : Int)] ∧ X.os = w.os ∧ X.tape = w.tape ∧ X.output = w.output ∧ w.heap.size ≤ X.heap.size ∧ ∀ b, b < w.heap.size → b ≠ tb → b ≠ fb → X.heap[b]? = w.heap[b]?) := fun X hX => by
    subst hX
    obtain ⟨Y, hY⟩ : ∃ Y, Y = (((((W.setCell ⟨tb, 0, none⟩ (.int .i64 0)).setCell ⟨tb, 1, none⟩ (.string ⟨#[]⟩)).setCell ⟨tb, 2, none⟩ (.slice none 0 0)).setCell ⟨tb, 3, none⟩ (.slice none 0 0)).setCell ⟨fb, 0, none⟩ (.int .i64 (p : Int))).setCell ⟨fb, 1, none⟩ (.int .i64 (c : Int)) := ⟨_, rfl⟩
    obtain ⟨h1, h2, h3, h4, h5, h6, _, h7⟩ := two_world tb fb (.int .i64 0) (.string ⟨#[]⟩) (.slice none 0 0) (.slice none 0 0) (.int .i64 (p : Int)) (.int .i64 (c : Int)) w W _ _ rfl rfl hne HB.out hT hF Y hY
    rw [← hY]
    exact ⟨h1, h2, h3, h4, h5, Nat.le_trans HB.out.size (Nat.le_of_eq h6), h7⟩
  clear hW hB hT hF HTF
  go_region
  go_wp2
  exact ⟨rfl, _, rfl, .tuple #[], by simp [results, Tryd.results50, go_sem], rfl, rfl, HF.out _ rfl⟩
/-- What reading a whole text comes to. -/
def PPost (F : Nat) (w : World) : PR Tm → Ending → World → Prop
  | .ok d _, e, w' => (∃ ta tc va vc, e = .returned (.tuple #[.agg #[.int .i64 d.kind, .string d.cons, .slice ta d.text.length tc, .slice va d.kids.length vc], .agg #[.int .i64 0, .int .i64 0]]) ∧ d.kids.length ≤ vc ∧ MIx w' (fun b => w.heap.size ≤ b ∧ b < w'.heap.size) F va d.kids ∧ Txx w' (fun b => w.heap.size ≤ b ∧ b < w'.heap.size) (.slice ta d.text.length tc) d.text) ∧ Below w.heap.size w w'
  | .bad q c, e, w' => e = .returned (.tuple #[.agg #[.int .i64 0, .string ⟨#[]⟩, .slice none 0 0, .slice none 0 0], .agg #[.int .i64 (q : Int), .int .i64 (c : Int)]]) ∧ Below w.heap.size w w'
theorem put4_grown (W : World) (b : Nat) (u0 u1 u2 u3 : Value) : W.grownBy (put4 W b u0 u1 u2 u3) (some b) := by
  unfold put4
  exact grown_tr (grown_tr (grown_tr (grown_set _ _ _ _) (grown_set _ _ _ _)) (grown_set _ _ _ _)) (grown_set _ _ _ _)
theorem put4_blk {W : World} {b : Nat} {a0 a1 a2 a3 : Value} (h : Blk W b 25 #[a0, a1, a2, a3]) (u0 u1 u2 u3 : Value) : Blk (put4 W b u0 u1 u2 u3) b 25 #[u0, u1, u2, u3] := by
  unfold put4
  have := (((h.set 0 u0).set 1 u1).set 2 u2).set 3 u3
  simpa using this
set_option maxRecDepth 100000 in
set_option maxHeartbeats 8000000 in
theorem parse_any (s : ByteArray) (w : World) (hs : s.size ≤ maxLen) : Calls Tryd.prog 30 #[.string s] w fun e w' => PPost (2 * s.size + 2) w (rpar s) e w' := by
  unfold maxLen at hs
  have hmf : ∀ (fn : Fn) (first cap : Array Value) (w : World), (Instr.makeFunc fn first cap).run Tryd.prog w = .ok (.func fn first cap) w := fun _ _ _ _ => rfl
  by_cases hl : 65536 < s.size
  · have HP : Hid (rpar s = .bad 0 2) := by show _ = _; unfold rpar; rw [if_pos hl]
    have hlI : (65536 : Int) < (s.size : Int) := by omega
    go_enter_defers Tryd.func30, Tryd.ntmps30
    go_wp2
    refine ⟨.tuple #[.agg #[.int .i64 0, .string ⟨#[]⟩, .slice none 0 0, .slice none 0 0], .agg #[.int .i64 0, .int .i64 2]], by simp [results, Tryd.results30, go_sem], ?_⟩
    show PPost (2 * s.size + 2) w (rpar s) _ _
    rw [HP.out]
    exact ⟨rfl, ((Below.refl _ _).alloc (Nat.le_refl _) _).alloc (by simp) _⟩
  · have hlI : ¬ (65536 : Int) < (s.size : Int) := by omega
    have hs6 : s.size ≤ 65536 := by omega
    obtain ⟨w3, hw3⟩ : ∃ w3, ((w.alloc (.cells #[.int .i64 0, .string ⟨#[]⟩, .slice none 0 0, .slice none 0 0] 25)).alloc (.cells #[.int .i64 0, .int .i64 0] 44)).alloc (.cells #[.string s, .int .i64 0] 76) = w3 := ⟨_, rfl⟩
    have s3 : w3.heap.size = w.heap.size + 3 := by rw [← hw3]; simp
    have hB3 : Below w.heap.size w w3 := by rw [← hw3]; exact ((((Below.refl _ _).alloc (Nat.le_refl _) _).alloc (by simp) _).alloc (by simp; omega) _)
    have hrd : RdAt w3 (w.heap.size + 2) s 0 := by
      have e : ((w.alloc (.cells #[.int .i64 0, .string ⟨#[]⟩, .slice none 0 0, .slice none 0 0] 25)).alloc (.cells #[.int .i64 0, .int .i64 0] 44)).heap.size = w.heap.size + 2 := by simp
      refine ⟨?_, ?_, ?_, by omega⟩
      · rw [← hw3, ← e]; exact cell_new 0 rfl
      · rw [← hw3, ← e]; exact cell_new 1 rfl
      · rw [← hw3, ← e]; exact World.frozen?_alloc_new _ _ _ _
    have hT3 : Blk w3 w.heap.size 25 #[.int .i64 0, .string ⟨#[]⟩, .slice none 0 0, .slice none 0 0] := by rw [← hw3]; exact ((Blk.new w 25 _).alloc _).alloc _
    have hF3 : Blk w3 (w.heap.size + 1) 44 #[.int .i64 0, .int .i64 0] := by
      rw [← hw3]
      have := (Blk.new (w.alloc (.cells #[.int .i64 0, .string ⟨#[]⟩, .slice none 0 0, .slice none 0 0] 25)) 44 #[.int .i64 0, .int .i64 0]).alloc (.cells #[.string s, .int .i64 0] 76)
      simpa using this
    have hc : ∀ W, w3.grownBy W (some (w.heap.size + 2)) → Blk W w.heap.size 25 #[.int .i64 0, .string ⟨#[]⟩, .slice none 0 0, .slice none 0 0] ∧ Blk W (w.heap.size + 1) 44 #[.int .i64 0, .int .i64 0] := fun W hg => ⟨hT3.kept hg (by simp), hF3.kept hg (by simp)⟩
    have ht : Calls Tryd.prog 51 #[.pointer (some ⟨w.heap.size + 2, 0, none⟩), .int .i64 1] w3 fun e w' => TPost (w.heap.size + 2) s (2 * s.size + 2) w3 (rt s (2 * s.size + 2) 0 1) e w' := term_any (w.heap.size + 2) s hs6 (2 * s.size + 2) 0 1 w3 hrd (by omega) (by omega) (by omega)
    have HRP : Hid (rpar s = match rt s (2 * s.size + 2) 0 1 with | .bad q c => .bad q c | .ok d q => if skp s q < s.size then .bad (skp s q) 15 else .ok d (skp s q)) := by show _ = _; unfold rpar; rw [if_neg hl]; rfl
    have HC : Hid _ := hc
    have HB3 : Hid _ := hB3
    have HS3 : Hid _ := s3
    cases hr : rt s (2 * s.size + 2) 0 1 with
    | bad q c =>
      rw [hr] at ht
      have HP : Hid (rpar s = .bad q c) := by show _ = _; rw [HRP.out, hr]
      have HT : Hid _ := fun (_ : Unit) => ht
      clear ht hr hc hB3 s3 hrd hl hT3 hF3
      go_enter_defers Tryd.func30, Tryd.ntmps30
      go_wp2_with (go_at_call 51; refine (HT.out ()).mono ?_)
      first | rintro e w5 rfl hg5 | rintro e w5 ⟨rfl, hg5⟩
      have hs5 := hg5.size
      have HG5 : Hid _ := hg5
      clear hg5
      simp only [FE]
      go_wp2
      refine leaves_cons (f := 50) (args := #[.pointer (some ⟨w.heap.size, 0, none⟩), .pointer (some ⟨w.heap.size + 1, 0, none⟩)]) (by simp) (by simp [go_sem]) ?_
      refine (caught_fault w.heap.size (w.heap.size + 1) q c _ _ _ _ _ _ w5 (by omega) (HC.out w5 HG5.out).1 (HC.out w5 HG5.out).2).mono ?_
      rintro e u' w6 ⟨rfl, rfl, r0, r1, ho, htp, hou, hsz, hbl⟩
      refine ⟨.tuple #[.agg #[.int .i64 0, .string ⟨#[]⟩, .slice none 0 0, .slice none 0 0], .agg #[.int .i64 (q : Int), .int .i64 (c : Int)]], by simp [results, Tryd.results30, go_sem, r0.cell 0 rfl, r0.cell 1 rfl, r0.cell 2 rfl, r0.cell 3 rfl, r1.cell 0 rfl, r1.cell 1 rfl], ?_⟩
      show PPost (2 * s.size + 2) w (rpar s) _ _
      rw [HP.out]
      refine ⟨rfl, ⟨(ho.trans HG5.out.os).trans HB3.out.os, (htp.trans HG5.out.tape).trans HB3.out.tape, (hou.trans HG5.out.output).trans HB3.out.output, by have := HB3.out.size; omega, fun b hb => ?_⟩⟩
      have h3 := HS3.out
      exact ((hbl b (by omega) (by omega) (by omega)).trans (HG5.out.block b (by omega) (by simp; omega))).trans (HB3.out.block b hb)
    | ok d q =>
      rw [hr] at ht
      have hpq := (rt_rk_pos s (2 * s.size + 2)).1 _ _ _ _ (Nat.zero_le _) hr
      have hrp : rpar s = if skp s q < s.size then .bad (skp s q) 15 else .ok d (skp s q) := by rw [HRP.out, hr]
      have HT : Hid _ := fun (_ : Unit) => ht
      have HHX : Hid (w.heap.size + 2 < w3.heap.size) := by show _ < _; omega
      have HSK : Hid (∀ W, RdAt W (w.heap.size + 2) s q → Calls Tryd.prog 52 #[.pointer (some ⟨w.heap.size + 2, 0, none⟩)] W fun e w' => e = .returned (.tuple #[]) ∧ RdAt w' (w.heap.size + 2) s (skp s q) ∧ W.grownBy w' (some (w.heap.size + 2))) := fun W h => skip_any (w.heap.size + 2) s q W h hpq.2 hs6
      obtain ⟨k, hk⟩ : ∃ k, skp s q = k := ⟨_, rfl⟩
      rw [hk] at HSK hrp
      clear hk
      by_cases hq : k < s.size
      · have hqI : (k : Int) < (s.size : Int) := by omega
        have HP : Hid (rpar s = .bad k 15) := by show _ = _; rw [hrp, if_pos hq]
        have HFL : Hid (∀ W, Calls Tryd.prog 53 #[.pointer (some ⟨w.heap.size + 2, 0, none⟩), .int .i64 (k : Int), .int .i64 15] W fun e w' => e = FE k 15 ∧ w' = W) := fun W => fail_any (w.heap.size + 2) k 15 W
        clear ht hr hc hB3 s3 hrd hl hpq hrp hq hT3 hF3
        go_enter_defers Tryd.func30, Tryd.ntmps30
        go_wp2_with (go_at_call 51; refine (HT.out ()).mono ?_)
        first | rintro e w5 ta tc va vc rfl hvc hm5 ht5 hr5 hg5 | rintro e w5 ⟨⟨ta, tc, va, vc, rfl, hvc, hm5, ht5⟩, hr5, hg5⟩
        obtain ⟨hT5, hF5⟩ := HC.out w5 hg5
        have hs5 := hg5.size
        have t0 := hT5.cell 0 rfl
        have t1 := hT5.cell 1 rfl
        have t2 := hT5.cell 2 rfl
        have t3 := hT5.cell 3 rfl
        have z0 := hT5.frozen 0
        have z1 := hT5.frozen 1
        have z2 := hT5.frozen 2
        have z3 := hT5.frozen 3
        have HTI : Hid _ := fun (_ : Unit) => (⟨hm5, ht5⟩ : _ ∧ _)
        have HVC : Hid _ := hvc
        have HR5 : Hid _ := hr5
        have HG5 : Hid _ := hg5
        have HTF5 : Hid _ := (⟨hT5, hF5⟩ : _ ∧ _)
        have HS5 : Hid _ := hs5
        clear hm5 ht5 hvc hr5 hg5 hT5 hF5 hs5
        have HCS : Hid _ := fun (_ : Unit) => HSK.out (put4 w5 w.heap.size (.int .i64 d.kind) (.string d.cons) (.slice ta d.text.length tc) (.slice va d.kids.length vc)) (HR5.out.grown (put4_grown _ _ _ _ _ _) (by omega))
        unfold put4 at HCS
        go_wp2_with (go_at_call 52; refine (HCS.out ()).mono ?_)
        first | rintro e w6 rfl hr6 hg6 | rintro e w6 ⟨rfl, hr6, hg6⟩
        have hg4 := put4_grown w5 w.heap.size (.int .i64 d.kind) (.string d.cons) (.slice ta d.text.length tc) (.slice va d.kids.length vc)
        have hb4 := put4_blk HTF5.out.1 (.int .i64 d.kind) (.string d.cons) (.slice ta d.text.length tc) (.slice va d.kids.length vc)
        unfold put4 at hg4 hb4
        have HG4 : Hid _ := hg4
        have HB4 : Hid _ := (fun (_ : Unit) => hb4)
        clear hg4 hb4
        have HTF : Hid (Blk w6 w.heap.size 25 #[.int .i64 d.kind, .string d.cons, .slice ta d.text.length tc, .slice va d.kids.length vc] ∧ Blk w6 (w.heap.size + 1) 44 #[.int .i64 0, .int .i64 0]) :=
          ⟨(HB4.out ()).kept hg6 (by simp), (HTF5.out.2.kept HG4.out (by simp)).kept hg6 (by simp)⟩
        have HB6 : Hid (Below w.heap.size w w6 ∧ (∀ b, b < w5.heap.size → b ≠ w.heap.size → b ≠ w.heap.size + 1 → b ≠ w.heap.size + 2 → w6.heap[b]? = w5.heap[b]?) ∧ w5.heap.size ≤ w6.heap.size) := by
          have a := HG5.out
          have b := HG4.out
          have h3 := HB3.out
          have s3 := HS3.out
          refine ⟨⟨((hg6.os.trans b.os).trans a.os).trans h3.os, ((hg6.tape.trans b.tape).trans a.tape).trans h3.tape, ((hg6.output.trans b.output).trans a.output).trans h3.output, by have := hg6.size; have := b.size; have := a.size; have := h3.size; omega, fun x hx => ?_⟩, fun x hx h1 h2 h4 => ?_, by have := hg6.size; have := b.size; omega⟩
          · have := a.size
            have := b.size
            exact (((hg6.block x (by omega) (by simp; omega)).trans (b.block x (by omega) (by simp; omega))).trans (a.block x (by omega) (by simp; omega))).trans (h3.block x hx)
          · have := b.size
            exact (hg6.block x (by omega) (by simp; omega)).trans (b.block x hx (by simp; omega))
        have q0 := hr6.text
        have q1 := hr6.at'
        clear HB4 HG4 HG5 HR5 HTF5 HCS HSK hr6 hg6 t0 t1 t2 t3 z0 z1 z2 z3
        go_wp2_with (go_at_call 53; refine (HFL.out _).mono ?_)
        first | rintro e w7 rfl rfl | rintro e w7 ⟨rfl, rfl⟩
        simp only [FE]
        go_wp2
        refine leaves_cons (f := 50) (args := #[.pointer (some ⟨w.heap.size, 0, none⟩), .pointer (some ⟨w.heap.size + 1, 0, none⟩)]) (by simp) (by simp [go_sem]) ?_
        refine (caught_fault w.heap.size (w.heap.size + 1) k 15 _ _ _ _ _ _ w7 (by omega) HTF.out.1 HTF.out.2).mono ?_
        rintro e u' w8 ⟨rfl, rfl, r0, r1, ho, htp, hou, hsz, hbl⟩
        refine ⟨.tuple #[.agg #[.int .i64 0, .string ⟨#[]⟩, .slice none 0 0, .slice none 0 0], .agg #[.int .i64 (k : Int), .int .i64 15]], by simp [results, Tryd.results30, go_sem, r0.cell 0 rfl, r0.cell 1 rfl, r0.cell 2 rfl, r0.cell 3 rfl, r1.cell 0 rfl, r1.cell 1 rfl], ?_⟩
        show PPost (2 * s.size + 2) w (rpar s) _ _
        rw [HP.out]
        have h6 := HB6.out
        have h3 := HS3.out
        have hh := HHX.out
        refine ⟨rfl, ⟨(ho.trans h6.1.os), (htp.trans h6.1.tape), (hou.trans h6.1.output), by have := h6.1.size; omega, fun b hb => ?_⟩⟩
        have := h6.2.2
        have := h6.1.size
        exact (hbl b (by omega) (by omega) (by omega)).trans (h6.1.block b hb)
      · have hqI : ¬ (k : Int) < (s.size : Int) := by omega
        have HP : Hid (rpar s = .ok d k) := by show _ = _; rw [hrp, if_neg hq]
        clear ht hr hc hB3 s3 hrd hl hpq hrp hq hT3 hF3
        go_enter_defers Tryd.func30, Tryd.ntmps30
        go_wp2_with (go_at_call 51; refine (HT.out ()).mono ?_)
        first | rintro e w5 ta tc va vc rfl hvc hm5 ht5 hr5 hg5 | rintro e w5 ⟨⟨ta, tc, va, vc, rfl, hvc, hm5, ht5⟩, hr5, hg5⟩
        obtain ⟨hT5, hF5⟩ := HC.out w5 hg5
        have hs5 := hg5.size
        have t0 := hT5.cell 0 rfl
        have t1 := hT5.cell 1 rfl
        have t2 := hT5.cell 2 rfl
        have t3 := hT5.cell 3 rfl
        have z0 := hT5.frozen 0
        have z1 := hT5.frozen 1
        have z2 := hT5.frozen 2
        have z3 := hT5.frozen 3
        have HTI : Hid _ := fun (_ : Unit) => (⟨hm5, ht5⟩ : _ ∧ _)
        have HVC : Hid _ := hvc
        have HR5 : Hid _ := hr5
        have HG5 : Hid _ := hg5
        have HTF5 : Hid _ := (⟨hT5, hF5⟩ : _ ∧ _)
        have HS5 : Hid _ := hs5
        clear hm5 ht5 hvc hr5 hg5 hT5 hF5 hs5
        have HCS : Hid _ := fun (_ : Unit) => HSK.out (put4 w5 w.heap.size (.int .i64 d.kind) (.string d.cons) (.slice ta d.text.length tc) (.slice va d.kids.length vc)) (HR5.out.grown (put4_grown _ _ _ _ _ _) (by omega))
        unfold put4 at HCS
        go_wp2_with (go_at_call 52; refine (HCS.out ()).mono ?_)
        first | rintro e w6 rfl hr6 hg6 | rintro e w6 ⟨rfl, hr6, hg6⟩
        have hg4 := put4_grown w5 w.heap.size (.int .i64 d.kind) (.string d.cons) (.slice ta d.text.length tc) (.slice va d.kids.length vc)
        have hb4 := put4_blk HTF5.out.1 (.int .i64 d.kind) (.string d.cons) (.slice ta d.text.length tc) (.slice va d.kids.length vc)
        unfold put4 at hg4 hb4
        have HG4 : Hid _ := hg4
        have HB4 : Hid _ := (fun (_ : Unit) => hb4)
        clear hg4 hb4
        have HTF : Hid (Blk w6 w.heap.size 25 #[.int .i64 d.kind, .string d.cons, .slice ta d.text.length tc, .slice va d.kids.length vc] ∧ Blk w6 (w.heap.size + 1) 44 #[.int .i64 0, .int .i64 0]) :=
          ⟨(HB4.out ()).kept hg6 (by simp), (HTF5.out.2.kept HG4.out (by simp)).kept hg6 (by simp)⟩
        have HB6 : Hid (Below w.heap.size w w6 ∧ (∀ b, b < w5.heap.size → b ≠ w.heap.size → b ≠ w.heap.size + 1 → b ≠ w.heap.size + 2 → w6.heap[b]? = w5.heap[b]?) ∧ w5.heap.size ≤ w6.heap.size) := by
          have a := HG5.out
          have b := HG4.out
          have h3 := HB3.out
          have s3 := HS3.out
          refine ⟨⟨((hg6.os.trans b.os).trans a.os).trans h3.os, ((hg6.tape.trans b.tape).trans a.tape).trans h3.tape, ((hg6.output.trans b.output).trans a.output).trans h3.output, by have := hg6.size; have := b.size; have := a.size; have := h3.size; omega, fun x hx => ?_⟩, fun x hx h1 h2 h4 => ?_, by have := hg6.size; have := b.size; omega⟩
          · have := a.size
            have := b.size
            exact (((hg6.block x (by omega) (by simp; omega)).trans (b.block x (by omega) (by simp; omega))).trans (a.block x (by omega) (by simp; omega))).trans (h3.block x hx)
          · have := b.size
            exact (hg6.block x (by omega) (by simp; omega)).trans (b.block x hx (by simp; omega))
        have q0 := hr6.text
        have q1 := hr6.at'
        clear HB4 HG4 HG5 HR5 HTF5 HCS HSK hr6 hg6 t0 t1 t2 t3 z0 z1 z2 z3
        have t0 := HTF.out.1.cell 0 rfl
        have t1 := HTF.out.1.cell 1 rfl
        have t2 := HTF.out.1.cell 2 rfl
        have t3 := HTF.out.1.cell 3 rfl
        have z0 := HTF.out.1.frozen 0
        have z1 := HTF.out.1.frozen 1
        have z2 := HTF.out.1.frozen 2
        have z3 := HTF.out.1.frozen 3
        have g0 := HTF.out.2.cell 0 rfl
        have g1 := HTF.out.2.cell 1 rfl
        have y0 := HTF.out.2.frozen 0
        have y1 := HTF.out.2.frozen 1
        have HFIN : Hid _ := fun X hX => two_world w.heap.size (w.heap.size + 1) (.int .i64 d.kind) (.string d.cons) (.slice ta d.text.length tc) (.slice va d.kids.length vc) (.int .i64 0) (.int .i64 0) w w6 _ _ rfl rfl (by omega) HB6.out.1 HTF.out.1 HTF.out.2 X hX
        go_wp2
        refine leaves_cons (f := 50) (args := #[.pointer (some ⟨w.heap.size, 0, none⟩), .pointer (some ⟨w.heap.size + 1, 0, none⟩)]) (by simp) (by simp [go_sem]) ?_
        obtain ⟨X, hX⟩ : ∃ X, X = (((((w6.setCell ⟨w.heap.size, 0, none⟩ (.int .i64 d.kind)).setCell ⟨w.heap.size, 1, none⟩ (.string d.cons)).setCell ⟨w.heap.size, 2, none⟩ (.slice ta d.text.length tc)).setCell ⟨w.heap.size, 3, none⟩ (.slice va d.kids.length vc)).setCell ⟨w.heap.size + 1, 0, none⟩ (.int .i64 0)).setCell ⟨w.heap.size + 1, 1, none⟩ (.int .i64 0) := ⟨_, rfl⟩
        obtain ⟨r0, r1, ho, htp, hou, hsz, hk6, hbl⟩ := HFIN.out X hX
        rw [← hX]
        refine (caught_none w.heap.size (w.heap.size + 1) X).mono ?_
        rintro e u' w7 ⟨rfl, rfl, rfl⟩
        refine ⟨.tuple #[.agg #[.int .i64 d.kind, .string d.cons, .slice ta d.text.length tc, .slice va d.kids.length vc], .agg #[.int .i64 0, .int .i64 0]], by simp [results, Tryd.results30, go_sem, r0.cell 0 rfl, r0.cell 1 rfl, r0.cell 2 rfl, r0.cell 3 rfl, r1.cell 0 rfl, r1.cell 1 rfl], ?_⟩
        show PPost (2 * s.size + 2) w (rpar s) _ _
        rw [HP.out]
        have h6 := HB6.out
        have h3 := HS3.out
        have hh := HHX.out
        have hkk : ∀ b, (w3.heap.size ≤ b ∧ b < w5.heap.size) → w7.heap[b]? = w5.heap[b]? := fun b hb => (hk6 b (by omega) (by omega)).trans (h6.2.1 b hb.2 (by omega) (by omega) (by omega))
        have hww : ∀ b, (w3.heap.size ≤ b ∧ b < w5.heap.size) → w.heap.size ≤ b ∧ b < w7.heap.size := fun b hb => ⟨by omega, by have := h6.2.2; omega⟩
        refine ⟨⟨ta, tc, va, vc, rfl, HVC.out, (((HTI.out ()).1.keep hkk).wide hww), (((HTI.out ()).2.keep hkk).wide hww)⟩, ⟨ho, htp, hou, by have := h6.1.size; omega, fun b hb => hbl b hb (by omega) (by omega)⟩⟩
end Go.Proofs.YtlkcadibjmfmcaaDoor
