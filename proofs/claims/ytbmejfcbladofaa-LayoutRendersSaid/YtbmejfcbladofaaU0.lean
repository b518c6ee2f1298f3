/- What is so from a thing on: plain, and the four methods that tell it. -/
import Derived.Test.YtbmejfcbladofaaT2
namespace Go.Proofs.Ytbmejfcbladofaa
open Go.RowKit

/-- bytes, near, hards. -/
structure Sr where
  b : Nat
  n : Nat
  h : Nat
def Sr.val (s : Sr) : Value := .agg #[.int .i64 (s.b : Int), .int .i64 (s.n : Int), .int .i64 (s.h : Int)]
def Th.from : Th → Sr → Sr
  | .text t, s => ⟨s.b + t.size, s.n + t.size, s.h⟩
  | .line t _, s => ⟨s.b + t.size, 0, s.h⟩
  | .hard _, s => ⟨s.b, 0, s.h + 1⟩
  | .group _, s => s
/-- What is so of a list of things. -/
def sr : List Th → Sr
  | [] => ⟨0, 0, 0⟩
  | t :: l => t.from (sr l)
def Th.fromFn : Th → Nat | .text _ => 70 | .line _ _ => 74 | .hard _ => 87 | .group _ => 90
def Th.load : Th → Value
  | .text s => .string s
  | .line s i => .agg #[.string s, .int .i64 i]
  | .hard i => .agg #[.int .i64 i]
  | .group n => .agg #[.int .i64 (n : Int)]
set_option maxRecDepth 100000 in
set_option maxHeartbeats 4000000 in
theorem from_any (t : Th) (s : Sr) (w : World) (h1 : s.b ≤ 1000000000000000) (h2 : s.n ≤ 1000000000000000) (h3 : s.h ≤ 1000000000000000) (ht : ∀ x, t = .text x ∨ (∃ i, t = .line x i) → x.size ≤ 1000000000000000) :
    Calls Try.prog t.fromFn #[t.load, s.val] w fun e w' => e = .returned (t.from s).val ∧ Below w.heap.size w w' := by
  obtain ⟨b, n, h⟩ := s
  simp only at h1 h2 h3
  cases t with
  | text x =>
    have hx := ht x (.inl rfl)
    show Calls Try.prog 70 #[.string x, .agg #[.int .i64 (b : Int), .int .i64 (n : Int), .int .i64 (h : Int)]] w _
    clear ht
    go_enter Try.func70, Try.ntmps70
    go_wp2
    refine bodyPost_ret (v := .agg #[.int .i64 ((b : Int) + (x.size : Int)), .int .i64 ((n : Int) + (x.size : Int)), .int .i64 (h : Int)]) (by simp [results, Try.results70, go_sem]) rfl ⟨?_, ((Below.refl _ _).alloc (Nat.le_refl _) _).alloc (by simp) _⟩
    simp [Th.from, Sr.val]
  | line x i =>
    have hx := ht x (.inr ⟨i, rfl⟩)
    show Calls Try.prog 74 #[.agg #[.string x, .int .i64 i], .agg #[.int .i64 (b : Int), .int .i64 (n : Int), .int .i64 (h : Int)]] w _
    clear ht
    go_enter Try.func74, Try.ntmps74
    go_wp2
    refine bodyPost_ret (v := .agg #[.int .i64 ((b : Int) + (x.size : Int)), .int .i64 0, .int .i64 (h : Int)]) (by simp [results, Try.results74, go_sem]) rfl ⟨?_, (((Below.refl _ _).alloc (Nat.le_refl _) _).alloc (by simp) _).alloc (by simp; omega) _⟩
    simp [Th.from, Sr.val]
  | hard i =>
    show Calls Try.prog 87 #[.agg #[.int .i64 i], .agg #[.int .i64 (b : Int), .int .i64 (n : Int), .int .i64 (h : Int)]] w _
    clear ht
    go_enter Try.func87, Try.ntmps87
    go_wp2
    refine bodyPost_ret (v := .agg #[.int .i64 (b : Int), .int .i64 0, .int .i64 ((h : Int) + 1)]) (by simp [results, Try.results87, go_sem]) rfl ⟨?_, (((Below.refl _ _).alloc (Nat.le_refl _) _).alloc (by simp) _).alloc (by simp; omega) _⟩
    simp [Th.from, Sr.val]
  | group m =>
    show Calls Try.prog 90 #[.agg #[.int .i64 (m : Int)], .agg #[.int .i64 (b : Int), .int .i64 (n : Int), .int .i64 (h : Int)]] w _
    clear ht
    go_enter Try.func90, Try.ntmps90
    go_wp2
    refine bodyPost_ret (v := .agg #[.int .i64 (b : Int), .int .i64 (n : Int), .int .i64 (h : Int)]) (by simp [results, Try.results90, go_sem]) rfl ⟨?_, (((Below.refl _ _).alloc (Nat.le_refl _) _).alloc (by simp) _).alloc (by simp; omega) _⟩
    simp [Th.from, Sr.val]
end Go.Proofs.Ytbmejfcbladofaa
