/- Grammars in memory; a rule's symbols asked one by one; which grammars are right. -/
import Derived.Test.YtopbibhpekjaeaaW1
import Derived.Deep.AppendLies
import Derived.Shelf.Abstract
import Derived.Laws.EntriesVeiled
namespace Go.Proofs.Ytopbibhpekjaeaa
open Go.RowKit

structure Ks where
  nt : Int
  set : St
structure Rl where
  lhs : Int
  rhs : List Ks
structure Gm where
  nts : Int
  start : Int
  rules : List Rl

theorem hmf : ∀ (fn : Fn) (first cap : Array Value) (w : World), (Instr.makeFunc fn first cap).run Try.prog w = .ok (.func fn first cap) w := fun _ _ _ _ => rfl

/-- A rule's symbols, read at an address below block B. -/
structure KAt (w : World) (B : Nat) (a : Option Addr) (l : List Ks) : Prop where
  len : l.length * 40 ≤ 140737488355328
  cells : ∀ j s, l[j]? = some s → ∃ b o, a = some ⟨b, o, none⟩ ∧ b < B ∧ s.set.ok ∧
    w.cell? ⟨b, o + j * 5, none⟩ = some (.int .i64 s.nt) ∧ w.cell? ⟨b, o + j * 5 + 1, none⟩ = some (.int .u64 s.set.a) ∧ w.cell? ⟨b, o + j * 5 + 2, none⟩ = some (.int .u64 s.set.b) ∧ w.cell? ⟨b, o + j * 5 + 3, none⟩ = some (.int .u64 s.set.c) ∧ w.cell? ⟨b, o + j * 5 + 4, none⟩ = some (.int .u64 s.set.d)
/-- Rules, read at an address below block B. -/
structure RAt (w : World) (B : Nat) (a : Option Addr) (rs : List Rl) : Prop where
  len : rs.length * 32 ≤ 140737488355328
  cells : ∀ j r, rs[j]? = some r → ∃ b o sa sc, a = some ⟨b, o, none⟩ ∧ b < B ∧ KAt w B sa r.rhs ∧
    w.cell? ⟨b, o + j * 2, none⟩ = some (.int .i64 r.lhs) ∧ w.cell? ⟨b, o + j * 2 + 1, none⟩ = some (.slice sa r.rhs.length sc)
theorem KAt.keep {w w' : World} {B : Nat} {a : Option Addr} {l : List Ks} (h : KAt w B a l) (hb : Below B w w') : KAt w' B a l := by
  refine ⟨h.len, fun j s hj => ?_⟩
  obtain ⟨b, o, h1, h2, h3, c0, c1, c2, c3, c4⟩ := h.cells j s hj
  have k : ∀ q, w'.cell? ⟨b, q, none⟩ = w.cell? ⟨b, q, none⟩ := fun q => hb.cell (p := ⟨b, q, none⟩) h2
  exact ⟨b, o, h1, h2, h3, by rw [k]; exact c0, by rw [k]; exact c1, by rw [k]; exact c2, by rw [k]; exact c3, by rw [k]; exact c4⟩
theorem RAt.keep {w w' : World} {B : Nat} {a : Option Addr} {l : List Rl} (h : RAt w B a l) (hb : Below B w w') : RAt w' B a l := by
  refine ⟨h.len, fun j r hj => ?_⟩
  obtain ⟨b, o, sa, sc, h1, h2, h3, c0, c1⟩ := h.cells j r hj
  have k : ∀ q, w'.cell? ⟨b, q, none⟩ = w.cell? ⟨b, q, none⟩ := fun q => hb.cell (p := ⟨b, q, none⟩) h2
  exact ⟨b, o, sa, sc, h1, h2, h3.keep hb, by rw [k]; exact c0, by rw [k]; exact c1⟩
theorem KAt.mono {w : World} {B B' : Nat} {a : Option Addr} {l : List Ks} (h : KAt w B a l) (hb : B ≤ B') : KAt w B' a l :=
  ⟨h.len, fun j s hj => by obtain ⟨b, o, h1, h2, h3⟩ := h.cells j s hj; exact ⟨b, o, h1, by omega, h3⟩⟩
theorem RAt.mono {w : World} {B B' : Nat} {a : Option Addr} {l : List Rl} (h : RAt w B a l) (hb : B ≤ B') : RAt w B' a l :=
  ⟨h.len, fun j s hj => by obtain ⟨b, o, sa, sc, h1, h2, h3, h4⟩ := h.cells j s hj; exact ⟨b, o, sa, sc, h1, by omega, h3.mono hb, h4⟩⟩

set_option maxRecDepth 100000 in
set_option maxHeartbeats 1000000 in
theorem all_any (K : Nat) (cap : Array Value) (q : Ks → Bool) (l : List Ks) (a : Option Addr) (c : Nat) (w : World) (hl : KAt w w.heap.size a l) (hent : Enters Try.prog K)
    (HK : ∀ s ∈ l, ∀ W, Below w.heap.size w W → Calls Try.prog K (#[.agg #[.int .i64 s.nt, .int .u64 s.set.a, .int .u64 s.set.b, .int .u64 s.set.c, .int .u64 s.set.d]] ++ cap) W fun e W' => e = .returned (.bool (q s)) ∧ Below W.heap.size W W') :
    Calls Try.prog 40 #[.slice a l.length c, .func (.func K) #[] cap] w fun e w' => e = .returned (.bool (l.all q)) ∧ Below w.heap.size w w' := by
  have hlen := hl.len
  go_enter Try.func40, Try.ntmps40
  go_wp2
  go_loopw [9] (fun i W => ∃ k : Nat, k ≤ l.length ∧ i = .int .i64 k ∧ (l.take k).all q = true ∧ Below w.heap.size w W) (fun i _ => l.length - (intOf i).toNat)
  case atStart => exact ⟨0, by omega, rfl, rfl, Below.refl _ _⟩
  case round =>
    obtain ⟨k, hk, rfl, ha, hB⟩ := hrel
    by_cases hlt : k < l.length
    · obtain ⟨s, hs⟩ : ∃ s, l[k]? = some s := ⟨l[k], by simp [hlt]⟩
      obtain ⟨b, o, rfl, hb, hok, c0, c1, c2, c3, c4⟩ := (hl.keep hB).cells k s hs
      have H : Hid _ := HK s (List.mem_of_getElem? hs)
      have HA : Hid (l.all q = true → q s = true) := fun h => List.all_eq_true.1 h s (List.mem_of_getElem? hs)
      have HT : Hid (q s = true → (l.take (k + 1)).all q = true) := fun h => by rw [List.take_add_one, hs]; simpa [ha] using h
      clear HK ha
      unfold Enters at hent
      have hB1 := hB.alloc hB.size (.cells #[.int .i64 s.nt, .int .u64 s.set.a, .int .u64 s.set.b, .int .u64 s.set.c, .int .u64 s.set.d] 56)
      go_wp2_with (refine (H.out _ hB1).mono ?_)
      rintro e w2 ⟨rfl, hb2⟩
      have hB2 := below_of hB1 hb2
      generalize q s = x at *
      cases x
      · go_wp2
        go_ret
        refine ⟨?_, hB2⟩
        have := HA.out
        cases hx : l.all q
        · rfl
        · exact absurd (this hx) (by simp)
      · have hT := HT.out rfl
        go_wp2
        exact ⟨⟨k + 1, by omega, by go_num, hT, hB2⟩, by simp [intOf]; omega⟩
    · obtain rfl : k = l.length := by omega
      rw [List.take_length] at ha
      go_wp2
      go_ret
      exact ⟨by rw [ha]; rfl, hB⟩
end Go.Proofs.Ytopbibhpekjaeaa
