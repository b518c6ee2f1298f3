/- Going through things from behind. -/
import Derived.Test.YtbmejfcbladofaaV0
import Derived.Test.YtbmejfcbladofaaU7
namespace Go.Proofs.Ytbmejfcbladofaa
open Go.RowKit Go.Shelf

attribute [local go_sem] Oper.semAt_some

def encB (x : Nat × Th) : Array Value := #[.int .i64 (x.1 : Int), x.2.val]
/-- What comes next, from behind. -/
def TB (l : List Th) (pre : List (Nat × Th)) (x : Nat × Th) : Prop := pre.length + x.1 + 1 = l.length ∧ l[x.1]? = some x.2
set_option maxRecDepth 100000 in
set_option maxHeartbeats 4000000 in
theorem back_seq (n : Nat) (hn : 1 ≤ n) (BX n₀ tb : Nat) (v : Value) (l : List Th) (w : World) (hn₀ : n₀ ≤ w.heap.size) (htb : tb < n₀) (hth : ThAt w tb v l) (hl : l.length ≤ 1000000) (hx : BX < w.heap.size) (c1 : w.cell? ⟨BX, 0, none⟩ = some v) :
    SeqT Fence.wide n Try.prog 50 #[.pointer (some ⟨BX, 0, none⟩)] encB n₀ (fun b => b = BX) (TB l) (fun xs => xs.length = l.length) (fun _ => True) 1000001 w := by
  intro ly J Jx W hW hJ _ hY h0
  have hsz := hW.size
  have c1W := (hW.cell (p := ⟨BX, 0, none⟩) hx).trans c1
  have hthW : ThAt W tb v l := hth.keep (hW.block tb (by omega))
  clear c1 hth
  obtain ⟨a, c, rfl, hc, hcl⟩ := hthW
  have HY : Hid _ := hY
  have HC : Hid _ := hcl
  have hlI : (l.length : Int) ≤ 1000000 := by omega
  clear hY hJ hcl
  refine callsIn_of_wp Try.func50 rfl trivial ?_ rfl
  simp only [Try.ntmps50, List.size_toArray, List.length_cons, List.length_nil, Nat.reduceAdd, Nat.reduceSub, Array.replicate_succ, Array.replicate_zero, List.push_toArray, List.append_toArray, List.nil_append, List.cons_append]
  gi_wp2
  gi_loopw [3] (fun iv wr => ∃ (k : Nat) (xs : List (Nat × Th)), xs.length + k = l.length ∧ iv = .int .i64 ((k : Int) - 1) ∧ J (fun b => b = BX) xs wr ∧ BX < wr.heap.size ∧ wr.heap[BX]? = W.heap[BX]? ∧ Below n₀ W wr) (fun iv _ => (intOf iv + 1).toNat)
  case atStart => exact ⟨l.length, [], by simp, rfl, h0, by omega, rfl, Below.refl _ _⟩
  case round =>
    obtain ⟨k, xs, hk, rfl, hj, hbx, hkx, hB⟩ := hrel
    cases k with
    | zero =>
      gi_wp2
      first | go_end0 | refine bodyPost_ret (results_none rfl _ _ _) rfl ?_
      exact ⟨⟨_, rfl⟩, .inl ⟨_, xs, by omega, hj⟩⟩
    | succ j =>
      rw [show ((j + 1 : Nat) : Int) - 1 = (j : Int) by omega]
      obtain ⟨t, ht⟩ : ∃ t, l[j]? = some t := ⟨l[j], by simp⟩
      obtain ⟨o, rfl, hcell⟩ := HC.out j t ht
      have hcell' := (hB.cell (p := ⟨tb, o + j, none⟩) (by show tb < _; omega)).trans hcell
      have cx : wr.cell? ⟨BX, 0, none⟩ = _ := (World.cell?_of_block (a := ⟨BX, 0, none⟩) hkx).trans c1W
      obtain ⟨fn, tmps, assign, body, hy0, hR⟩ := HY.out (fun b => b = BX) xs (j, t) wr hj (by omega) ⟨by show xs.length + j + 1 = _; omega, ht⟩
      have hy : (Instr.yield ly #[.int .i64 (j : Int), t.val]).run Try.prog wr = .ok (.round ly fn tmps assign body) wr := hy0
      clear hy0 hcell
      have hjI : (j : Int) < l.length := by omega
      gi_wp2
      refine hR.mono ?_
      rintro e W3 (⟨rfl, hJ3, hK3⟩ | ⟨rfl, hJx3⟩)
      · gi_wp2
        refine ⟨⟨j, xs ++ [(j, t)], by simp; omega, rfl, hJ3, Nat.lt_of_lt_of_le hbx hK3.1.size, (hK3.2 BX rfl hbx).trans hkx, hB.trans hK3.1⟩, by simp [intOf]⟩
      · gi_wp2
        first | go_end0 | refine bodyPost_ret (results_none rfl _ _ _) rfl ?_
        exact ⟨⟨_, rfl⟩, .inr ⟨_, _, trivial, hJx3⟩⟩
end Go.Proofs.Ytbmejfcbladofaa
