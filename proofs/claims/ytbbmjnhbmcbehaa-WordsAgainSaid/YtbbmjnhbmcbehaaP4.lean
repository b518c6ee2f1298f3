/- A text's words, put together with single blanks, are the same words again: plain. -/
import Derived.Test.YtbbmjnhbmcbehaaP3
namespace Go.Proofs.Ytbbmjnhbmcbehaa
open Go.RowKit

/-- Nothing is skipped ahead of it. -/
def starts (r : List UInt8) : Prop := ∀ c t, r = c :: t → c.toNat ≠ 10 ∧ c.toNat ≠ 32 ∧ c.toNat ≠ 9 ∧ c.toNat ≠ 13 ∧ c.toNat ≠ 35
theorem starts_skp {r : List UInt8} (h : starts r) (p ln bg : Nat) : skp r false p ln bg = (r, p, ln, bg) := by
  cases r with
  | nil => rfl
  | cons c t =>
    obtain ⟨h1, h2, h3, h4, h5⟩ := h c t rfl
    unfold skp
    rw [if_neg h1, if_neg (by simp), if_neg (by omega), if_neg h5]
theorem skp_starts : ∀ (l : List UInt8) (r : Bool) (p ln bg : Nat), starts (skp l r p ln bg).1
  | [], r, p, ln, bg => fun c t h => by simp [skp] at h
  | c :: l, r, p, ln, bg => by
    unfold skp
    split
    · exact skp_starts l _ _ _ _
    · rename_i h1
      split
      · exact skp_starts l _ _ _ _
      · split
        · exact skp_starts l _ _ _ _
        · rename_i h3
          split
          · exact skp_starts l _ _ _ _
          · rename_i h4
            intro c' t' e
            cases e
            exact ⟨h1, by omega, by omega, by omega, h4⟩
theorem starts_app {r : List UInt8} {n : Nat} (h : starts r) (hn : 1 ≤ n) (hr : n ≤ r.length) (x : List UInt8) : starts (r.take n ++ x) := by
  cases r with
  | nil => simp at hr; omega
  | cons c t =>
    obtain ⟨m, rfl⟩ : ∃ m, n = m + 1 := ⟨n - 1, by omega⟩
    intro c' t' e
    rw [List.take_succ_cons, List.cons_append] at e
    cases e
    exact h c t rfl
def endW : Nat × List UInt8 × List Nat × St × Nat := (7, [], [], St.zero, 0)
/-- A word that is one of some text's. -/
def GoodW (d : Wd) : Prop := ∃ r, (rdw r).code = 0 ∧ (rdw r).kind ≠ 7 ∧ starts r ∧ cw d = cw (mkWd r (rdw r) 0 0 0)
theorem GoodW.len {d : Wd} (h : GoodW d) : 1 ≤ d.text.length ∧ d.kind ≠ 7 := by
  obtain ⟨r, h1, h2, _, h4⟩ := h
  obtain ⟨a, b, _⟩ := rdw_len r h1
  have e1 : d.text = r.take (rdw r).len := congrArg (fun x => x.2.1) h4
  have e2 : d.kind = (rdw r).kind := congrArg (fun x => x.1) h4
  refine ⟨?_, by rw [e2]; exact h2⟩
  have := b h2
  rw [e1, List.length_take]; omega
theorem scn_good : ∀ (f : Nat) (l : List UInt8) (p ln bg : Nat) (acc : List Wd), l.length < f → (scn f l p ln bg acc).2.2 = 0 →
    ∃ ws we, (scn f l p ln bg acc).1 = acc ++ ws ++ [we] ∧ (scn f l p ln bg acc).2.1 = 0 ∧ cw we = endW ∧ (∀ d ∈ ws, GoodW d) ∧ (ws.map fun d => d.text.length).sum ≤ l.length
  | 0, l, p, ln, bg, acc, h, _ => by omega
  | f + 1, l, p, ln, bg, acc, h1, h0 => by
    have hl := skp_len l false p ln bg
    have hst := skp_starts l false p ln bg
    rw [scn_step f] at h0 ⊢
    have hlen := rdw_len (skp l false p ln bg).1
    generalize (skp l false p ln bg).1 = r at *
    generalize (skp l false p ln bg).2 = s at *
    by_cases hc : (rdw r).code ≠ 0
    · rw [if_pos hc] at h0; exact absurd h0 hc
    rw [if_neg hc] at h0 ⊢
    have hc0 : (rdw r).code = 0 := by simpa using hc
    obtain ⟨l1, l2, l3⟩ := hlen hc0
    by_cases h7 : (rdw r).kind = 7
    · rw [if_pos h7]
      refine ⟨[], _, by rw [List.append_nil], rfl, ?_, by simp, by simp⟩
      obtain rfl := l3.1 h7
      rfl
    · rw [if_neg h7] at h0 ⊢
      have hpos := l2 h7
      obtain ⟨ws, we, e1, e2, e3, e4, e5⟩ := scn_good f (r.drop (rdw r).len) (s.1 + (rdw r).len) s.2.1 s.2.2 _ (by rw [List.length_drop]; omega) h0
      refine ⟨mkWd r (rdw r) s.1 s.2.1 s.2.2 :: ws, we, by rw [e1]; simp, e2, e3, ?_, ?_⟩
      · intro d hd
        rcases List.mem_cons.1 hd with rfl | hd
        · exact ⟨r, hc0, h7, hst, rfl⟩
        · exact e4 d hd
      · have : (mkWd r (rdw r) s.1 s.2.1 s.2.2).text.length = (rdw r).len := by
          show (r.take _).length = _
          rw [List.length_take]; omega
        rw [List.map_cons, List.sum_cons, this]
        rw [List.length_drop] at e5; omega
def joinT : List (List UInt8) → List UInt8
  | [] => []
  | [t] => t
  | t :: u :: ts => t ++ 32 :: joinT (u :: ts)
theorem scn_blank (f : Nat) (l : List UInt8) (p ln bg : Nat) (acc : List Wd) (hf : 1 ≤ f) : scn f (32 :: l) p ln bg acc = scn f l (p + 1) ln bg acc := by
  obtain ⟨f, rfl⟩ : ∃ g, f = g + 1 := ⟨f - 1, by omega⟩
  have e : skp (32 :: l) false p ln bg = skp l false (p + 1) ln bg := by simp [skp]
  rw [scn_step f, scn_step f, e]
theorem scn_join : ∀ (ds : List Wd) (f : Nat) (p ln bg : Nat) (acc : List Wd), (∀ d ∈ ds, GoodW d) → (joinT (ds.map (·.text))).length < f →
    ∃ ws we, scn f (joinT (ds.map (·.text))) p ln bg acc = (acc ++ ws ++ [we], 0, 0) ∧ ws.map cw = ds.map cw ∧ cw we = endW
  | [], f, p, ln, bg, acc, _, hf => by
    obtain ⟨f, rfl⟩ : ∃ g, f = g + 1 := ⟨f - 1, by omega⟩
    exact ⟨[], _, by rw [List.append_nil]; rfl, rfl, rfl⟩
  | d :: ds, f, p, ln, bg, acc, hd, hf => by
    obtain ⟨f, rfl⟩ : ∃ g, f = g + 1 := ⟨f - 1, by omega⟩
    obtain ⟨r, h1, h2, h3, h4⟩ := hd d (by simp)
    obtain ⟨a, b, _⟩ := rdw_len r h1
    have hpos := b h2
    have hlen := (hd d (by simp)).len
    have e1 : d.text = r.take (rdw r).len := congrArg (fun x => x.2.1) h4
    have hdl : d.text.length = (rdw r).len := by rw [e1, List.length_take]; omega
    -- what stands behind it
    obtain ⟨R, hR, hRs⟩ : ∃ R, joinT ((d :: ds).map (·.text)) = d.text ++ R ∧ ((R = [] ∧ ds = []) ∨ R = 32 :: joinT (ds.map (·.text))) := by
      cases ds with
      | nil => exact ⟨[], by simp [joinT], .inl ⟨rfl, rfl⟩⟩
      | cons e es => exact ⟨32 :: joinT ((e :: es).map (·.text)), by simp [joinT], .inr rfl⟩
    rw [hR] at hf ⊢
    rw [List.length_append] at hf
    rw [e1]
    have hst : stop alnum R ∧ stop digB R := by
      rcases hRs with ⟨rfl, _⟩ | rfl
      · exact ⟨stop_nil _, stop_nil _⟩
      · exact ⟨stop_cons (by decide), stop_cons (by decide)⟩
    have hw := rdw_pre r R h1 h2 (fun _ => hst.1) (fun _ => hst.2)
    have hk := starts_skp (starts_app h3 hpos a R) p ln bg
    rw [scn_step f, hk]
    simp only
    rw [hw, if_neg (by simpa using h1), if_neg h2, drop_app a]
    have hcw : cw (mkWd (r.take (rdw r).len ++ R) (rdw r) p ln bg) = cw d := by
      rw [h4]; unfold cw mkWd; simp only; rw [take_app a]
    rcases hRs with ⟨rfl, rfl⟩ | rfl
    · obtain ⟨ws, we, g1, g2, g3⟩ := scn_join [] f (p + (rdw r).len) ln bg (acc ++ [mkWd (r.take (rdw r).len ++ []) (rdw r) p ln bg]) (by simp) (by simp [joinT]; omega)
      refine ⟨mkWd (r.take (rdw r).len ++ []) (rdw r) p ln bg :: ws, we, ?_, by rw [List.map_cons, List.map_cons, hcw, g2], g3⟩
      have g1' : scn f [] (p + (rdw r).len) ln bg (acc ++ [mkWd (r.take (rdw r).len ++ []) (rdw r) p ln bg]) = _ := g1
      rw [g1']; simp
    · rw [List.length_cons] at hf
      obtain ⟨ws, we, g1, g2, g3⟩ := scn_join ds f (p + (rdw r).len + 1) ln bg (acc ++ [mkWd (r.take (rdw r).len ++ 32 :: joinT (ds.map (·.text))) (rdw r) p ln bg]) (fun e he => hd e (by simp [he])) (by omega)
      refine ⟨mkWd (r.take (rdw r).len ++ 32 :: joinT (ds.map (·.text))) (rdw r) p ln bg :: ws, we, ?_, by rw [List.map_cons, List.map_cons, hcw, g2], g3⟩
      rw [scn_blank _ _ _ _ _ _ (by omega), g1]; simp
theorem join_len : ∀ (ts : List (List UInt8)), (joinT ts).length ≤ (ts.map fun t => t.length).sum + ts.length
  | [] => by simp [joinT]
  | [t] => by simp [joinT]
  | t :: u :: ts => by
    have := join_len (u :: ts)
    simp only [joinT, List.length_append, List.length_cons, List.map_cons, List.sum_cons] at *
    omega
theorem sum_pos : ∀ ds : List Wd, (∀ d ∈ ds, 1 ≤ d.text.length) → ds.length ≤ (ds.map fun d => d.text.length).sum
  | [], _ => by simp
  | d :: ds, h => by
    have h1 := sum_pos ds (fun e he => h e (by simp [he]))
    have h2 := h d (by simp)
    simp only [List.length_cons, List.map_cons, List.sum_cons]; omega
theorem words_again (l : List UInt8) (hl : l.length ≤ 20000) (h0 : (scan l).2.2 = 0) :
    ∃ ws we, (scan l).1 = ws ++ [we] ∧ (scan l).2.1 = 0 ∧ we.kind = 7 ∧ (∀ d ∈ ws, d.kind ≠ 7 ∧ d.text ≠ []) ∧ (joinT (ws.map (·.text))).length ≤ 65536 ∧ (ws.map fun d => d.text.length).sum ≤ 20000 ∧ ws.length ≤ 20000 ∧
      (scan (joinT (ws.map (·.text)))).2 = (0, 0) ∧ (scan (joinT (ws.map (·.text)))).1.map cw = (scan l).1.map cw := by
  have e1 : scan l = scn (l.length + 1) l 0 1 0 [] := by unfold scan; rw [if_neg (by omega)]
  rw [e1] at h0
  obtain ⟨ws, we, g1, g2, g3, g4, g5⟩ := scn_good _ _ _ _ _ _ (Nat.lt_succ_self _) h0
  have hs := sum_pos ws (fun d hd => (g4 d hd).len.1)
  have hj := join_len (ws.map (·.text))
  rw [List.map_map, List.length_map] at hj
  have hj' : (joinT (ws.map (·.text))).length ≤ 40000 := by
    have e : ((fun t : List UInt8 => t.length) ∘ fun d : Wd => d.text) = fun d => d.text.length := rfl
    rw [e] at hj; omega
  obtain ⟨ws2, we2, i1, i2, i3⟩ := scn_join ws ((joinT (ws.map (·.text))).length + 1) 0 1 0 [] g4 (Nat.lt_succ_self _)
  have e2 : scan (joinT (ws.map (·.text))) = scn ((joinT (ws.map (·.text))).length + 1) (joinT (ws.map (·.text))) 0 1 0 [] := by unfold scan; rw [if_neg (by omega)]
  refine ⟨ws, we, ?_⟩
  rw [e1, e2, i1, g1]
  refine ⟨rfl, g2, congrArg (fun x => x.1) g3, fun d hd => ⟨(g4 d hd).len.2, fun e => by have := (g4 d hd).len.1; rw [e] at this; simp at this⟩, by omega, by omega, by omega, rfl, ?_⟩
  simp only [List.nil_append, List.map_append, List.map_cons, List.map_nil, i2, i3, g3]
end Go.Proofs.Ytbbmjnhbmcbehaa
