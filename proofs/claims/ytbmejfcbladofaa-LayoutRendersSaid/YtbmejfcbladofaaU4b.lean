/- Nothing is cut off nothing. -/
import Derived.Test.YtbmejfcbladofaaU4
namespace Go.Proofs.Ytbmejfcbladofaa
open Go.RowKit

set_option maxRecDepth 100000 in
set_option maxHeartbeats 8000000 in
theorem cut_nil (lo PB tb sb : Nat) (p : Pg) (tv rv fv : Value) (w : World) (h : PgAt lo PB tb sb p [] tv rv fv w) :
    Calls Try.prog 46 #[.pointer (some ⟨PB, 0, none⟩), .int .i64 0] w fun e w' => (∃ v rv' fv', e = .returned v ∧ ThAt w' tb v [] ∧ PgAt lo PB tb sb p [] tv rv' fv' w') ∧ Turn PB tv tv w w' := by
  obtain ⟨a, c, rfl, hc, hth⟩ := h.th
  obtain ⟨o, c', rfl, hc', hsr⟩ := h.sr
  obtain ⟨c5, f5⟩ := blk_cell h.blk (j := 5) rfl
  obtain ⟨c6, f6⟩ := blk_cell h.blk (j := 6) rfl
  have HC : Hid _ := fun (rv' : Value) (hth : ThAt w tb rv' []) => h.cut rv' (.slice (some ⟨sb, o, none⟩) (([] : List Th).length + 1) c') hth h.sr
  have HN : Hid (∀ (W : World) (a : Option Addr) (c : Nat), ThAt W tb (.slice a 0 c) []) := fun W a c => ⟨a, c, rfl, by simp, fun j t hj => by simp at hj⟩
  have hne : ¬ 0 = c' := by simp at hc'; omega
  have h4 : 1 ≤ c' := by simpa using hc'
  clear h hth hsr hc'
  simp only [List.length_nil, Nat.zero_add] at c5 c6 hc HC
  cases a with
  | none =>
    go_enter Try.func46, Try.ntmps46
    go_wp2
    go_region
    all_goals go_wp2
    all_goals go_ret
    all_goals exact ⟨⟨_, _, _, rfl, HN.out _ _ _, (HC.out _ (HN.out _ _ _)).1⟩, (HC.out _ (HN.out _ _ _)).2⟩
  | some q =>
    obtain ⟨qb, qo, qn⟩ := q
    by_cases hc0 : 0 = c
    · subst hc0
      go_enter Try.func46, Try.ntmps46
      go_wp2
      go_region
      all_goals go_wp2
      all_goals go_ret
      all_goals exact ⟨⟨_, _, _, rfl, HN.out _ _ _, (HC.out _ (HN.out _ _ _)).1⟩, (HC.out _ (HN.out _ _ _)).2⟩
    · go_enter Try.func46, Try.ntmps46
      go_wp2
      go_region
      all_goals go_wp2
      all_goals go_ret
      all_goals exact ⟨⟨_, _, _, rfl, HN.out _ _ _, (HC.out _ (HN.out _ _ _)).1⟩, (HC.out _ (HN.out _ _ _)).2⟩
theorem cut_all (lo PB tb sb : Nat) (p : Pg) (l : List Th) (tv rv fv : Value) (n : Nat) (w : World) (h : PgAt lo PB tb sb p l tv rv fv w) (hn : n ≤ l.length) :
    Calls Try.prog 46 #[.pointer (some ⟨PB, 0, none⟩), .int .i64 (n : Int)] w fun e w' => (∃ v rv' fv', e = .returned v ∧ ThAt w' tb v (l.take n) ∧ PgAt lo PB tb sb p (l.drop n) tv rv' fv' w') ∧ Turn PB tv tv w w' := by
  cases l with
  | nil => obtain rfl : n = 0 := by simpa using hn
           exact cut_nil lo PB tb sb p tv rv fv w h
  | cons t l => exact cut_any lo PB tb sb p (t :: l) tv rv fv n w h hn (by simp)
end Go.Proofs.Ytbmejfcbladofaa
