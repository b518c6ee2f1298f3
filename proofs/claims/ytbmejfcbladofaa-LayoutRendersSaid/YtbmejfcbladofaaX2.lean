/- The fixed calls. -/
import Derived.Test.YtbmejfcbladofaaX0
import Derived.Test.YtbmejfcbladofaaX1
namespace Go.Proofs.Ytbmejfcbladofaa
open Go.RowKit

theorem old_blk (W : World) (o : Obj) {b : Nat} (h : b < W.heap.size) : (W.alloc o).heap[b]? = W.heap[b]? := ((Below.refl W.heap.size W).alloc (Nat.le_refl _) o).block b h
theorem blk_new (W : World) (cs : Array Value) (t : TypeId) : (W.alloc (.cells cs t)).heap[W.heap.size]? = some (.cells cs t (0, 0)) := heap_alloc_new W _
theorem dat_mk {W : World} {B b f : Nat} {cs : Array Value} {t : TypeId} {l : List Dc} (hb : W.heap[b]? = some (.cells cs t (0, 0))) (hlt : b < B) (hlen : l.length * 56 ≤ 140737488355328) (h : ∀ j d, l[j]? = some d → ∃ sa sc, cs[j * 4]? = some (.int .i64 d.kind) ∧ cs[j * 4 + 1]? = some (.string d.text) ∧ cs[j * 4 + 2]? = some (.int .i64 d.n) ∧ cs[j * 4 + 3]? = some (.slice sa d.kids.length sc) ∧ d.kids.length ≤ sc ∧ DAt W B f sa d.kids) : DAt W B (f + 1) (some ⟨b, 0, none⟩) l := by
  refine ⟨hlen, fun j d hj => ?_⟩
  obtain ⟨sa, sc, h0, h1, h2, h3, hc, hk⟩ := h j d hj
  refine ⟨b, 0, rfl, hlt, sa, sc, ?_, ?_, ?_, ?_, hc, hk⟩
  · rw [Nat.zero_add]; exact (blk_cell hb h0).1
  · rw [Nat.zero_add]; exact (blk_cell hb h1).1
  · rw [Nat.zero_add]; exact (blk_cell hb h2).1
  · rw [Nat.zero_add]; exact (blk_cell hb h3).1
theorem DAt.nil {W : World} {B f : Nat} {a : Option Addr} : DAt W B f a [] := by
  cases f with
  | zero => rfl
  | succ f => exact ⟨by decide, fun j d hj => by cases hj⟩
def twoK : List Dc := [.mk 1 ⟨#[97]⟩ 0 [], .mk 2 ⟨#[32]⟩ 0 [], .mk 1 ⟨#[98]⟩ 0 []]
def twoD : Dc := .mk 5 ⟨#[]⟩ 0 twoK
theorem two_right : rightD twoD = true := by decide +kernel
theorem two_wt : wt twoD ≤ 1000000 := by decide +kernel
theorem two_t3 : layT twoD 3 = ⟨#[97, 32, 98]⟩ := by decide +kernel
theorem two_c3 : layC twoD 3 = 0 := by decide +kernel
theorem two_t2 : layT twoD 2 = ⟨#[97, 10, 98]⟩ := by decide +kernel
theorem two_c2 : layC twoD 2 = 0 := by decide +kernel
theorem two_b2 : layB twoD 2 = 1 := by decide +kernel
theorem none_c2 : layC (.mk 0 ⟨#[]⟩ 0 []) 2 = 140 := by decide +kernel
theorem none_right : rightD (.mk 0 ⟨#[]⟩ 0 []) = false := by decide +kernel
theorem two_at {W : World} {b B : Nat} {t : TypeId} (hb : W.heap[b]? = some (.cells #[.int .i64 1, .string ⟨#[97]⟩, .int .i64 0, .slice none 0 0, .int .i64 2, .string ⟨#[32]⟩, .int .i64 0, .slice none 0 0, .int .i64 1, .string ⟨#[98]⟩, .int .i64 0, .slice none 0 0] t (0, 0))) (hlt : b < B) : DAt W B 1 (some ⟨b, 0, none⟩) twoK := by
  refine dat_mk hb hlt (by decide) fun j d hj => ?_
  have hj3 : j < 3 := (List.getElem?_eq_some_iff.1 hj).1
  obtain rfl | rfl | rfl : j = 0 ∨ j = 1 ∨ j = 2 := by omega
  all_goals
    simp [twoK] at hj
    subst hj
    exact ⟨none, 0, rfl, rfl, rfl, rfl, Nat.le_refl _, rfl⟩
set_option maxRecDepth 100000 in
set_option maxHeartbeats 4000000 in
theorem two_any (w : World) : Calls Try.prog 20 #[] w fun e w' => (∃ b, e = .returned (.agg #[.int .i64 5, .string ⟨#[]⟩, .int .i64 0, .slice (some ⟨b, 0, none⟩) 3 3]) ∧ DAt w' w'.heap.size 1 (some ⟨b, 0, none⟩) twoK) ∧ Below w.heap.size w w' := by
  go_enter Try.func20, Try.ntmps20
  go_wp2
  try simp only [Exit.inBlock, Exit.then]
  refine bodyPost_ret (results_cell_row rfl _ _ w.heap.size 24 #[.int .i64 5, .string ⟨#[]⟩, .int .i64 0, .slice (some ⟨w.heap.size + 1, 0, none⟩) 3 3] (0, 0) _ rfl ?hg Try.underlying24 rfl (by kernel_rfl)) rfl ?_
  case hg => exact (old_blk _ _ (by simp only [World.size_alloc]; omega)).trans <| heap_alloc_new _ _
  refine ⟨⟨_, rfl, ?_⟩, ?_⟩
  · refine two_at (t := 24) ?_ (by simp)
    have := blk_new (w.alloc (.cells #[.int .i64 5, .string ⟨#[]⟩, .int .i64 0, .slice (some ⟨w.heap.size + 1, 0, none⟩) 3 3] 24)) #[.int .i64 1, .string ⟨#[97]⟩, .int .i64 0, .slice none 0 0, .int .i64 2, .string ⟨#[32]⟩, .int .i64 0, .slice none 0 0, .int .i64 1, .string ⟨#[98]⟩, .int .i64 0, .slice none 0 0] 24
    simpa only [World.size_alloc] using this
  · exact ((Below.refl _ _).alloc (Nat.le_refl _) _).alloc (by simp) _
end Go.Proofs.Ytbmejfcbladofaa
