/- Grammars in memory; which grammars are right, and which heavy. -/
import Derived.Test.YtlnlkbkmnkjbhaaDoorGa
import Derived.Deep.AppendLies
import Derived.Shelf.Abstract
import Derived.Laws.EntriesVeiled
namespace Go.Proofs.YtlnlkbkmnkjbhaaDoor
open Go.RowKit


structure Ks where
  nt : Int
  set : St
structure Rl where
  lhs : Int
  rhs : List Ks
structure Gm where
  nts : Int
  start : Int
  rules : List Rl

theorem hmf : ∀ (fn : Fn) (first cap : Array Value) (w : World), (Instr.makeFunc fn first cap).run Tryd.prog w = .ok (.func fn first cap) w := fun _ _ _ _ => rfl

/-- A rule's symbols, read at an address below block B. -/
structure KAt (w : World) (B : Nat) (a : Option Addr) (l : List Ks) : Prop where
  len : l.length * 40 ≤ 140737488355328
  cells : ∀ j s, l[j]? = some s → ∃ b o, a = some ⟨b, o, none⟩ ∧ b < B ∧ s.set.ok ∧
    w.cell? ⟨b, o + j * 5, none⟩ = some (.int .i64 s.nt) ∧ w.cell? ⟨b, o + j * 5 + 1, none⟩ = some (.int .u64 s.set.a) ∧ w.cell? ⟨b, o + j * 5 + 2, none⟩ = some (.int .u64 s.set.b) ∧ w.cell? ⟨b, o + j * 5 + 3, none⟩ = some (.int .u64 s.set.c) ∧ w.cell? ⟨b, o + j * 5 + 4, none⟩ = some (.int .u64 s.set.d)
/-- Rules, read at an address below block B. -/
structure RAt (w : World) (B : Nat) (a : Option Addr) (rs : List Rl) : Prop where
  len : rs.length * 32 ≤ 140737488355328
  cells : ∀ j r, rs[j]? = some r → ∃ b o sa sc, a = some ⟨b, o, none⟩ ∧ b < B ∧ KAt w B sa r.rhs ∧
    w.cell? ⟨b, o + j * 2, none⟩ = some (.int .i64 r.lhs) ∧ w.cell? ⟨b, o + j * 2 + 1, none⟩ = some (.slice sa r.rhs.length sc)
theorem KAt.keep {w w' : World} {B : Nat} {a : Option Addr} {l : List Ks} (h : KAt w B a l) (hb : Below B w w') : KAt w' B a l := by
  refine ⟨h.len, fun j s hj => ?_⟩
  obtain ⟨b, o, h1, h2, h3, c0, c1, c2, c3, c4⟩ := h.cells j s hj
  have k : ∀ q, w'.cell? ⟨b, q, none⟩ = w.cell? ⟨b, q, none⟩ := fun q => hb.cell (p := ⟨b, q, none⟩) h2
  exact ⟨b, o, h1, h2, h3, by rw [k]; exact c0, by rw [k]; exact c1, by rw [k]; exact c2, by rw [k]; exact c3, by rw [k]; exact c4⟩
theorem RAt.keep {w w' : World} {B : Nat} {a : Option Addr} {l : List Rl} (h : RAt w B a l) (hb : Below B w w') : RAt w' B a l := by
  refine ⟨h.len, fun j r hj => ?_⟩
  obtain ⟨b, o, sa, sc, h1, h2, h3, c0, c1⟩ := h.cells j r hj
  have k : ∀ q, w'.cell? ⟨b, q, none⟩ = w.cell? ⟨b, q, none⟩ := fun q => hb.cell (p := ⟨b, q, none⟩) h2
  exact ⟨b, o, sa, sc, h1, h2, h3.keep hb, by rw [k]; exact c0, by rw [k]; exact c1⟩
theorem KAt.mono {w : World} {B B' : Nat} {a : Option Addr} {l : List Ks} (h : KAt w B a l) (hb : B ≤ B') : KAt w B' a l :=
  ⟨h.len, fun j s hj => by obtain ⟨b, o, h1, h2, h3⟩ := h.cells j s hj; exact ⟨b, o, h1, by omega, h3⟩⟩
theorem RAt.mono {w : World} {B B' : Nat} {a : Option Addr} {l : List Rl} (h : RAt w B a l) (hb : B ≤ B') : RAt w B' a l :=
  ⟨h.len, fun j s hj => by obtain ⟨b, o, sa, sc, h1, h2, h3, h4⟩ := h.cells j s hj; exact ⟨b, o, sa, sc, h1, by omega, h3.mono hb, h4⟩⟩

set_option maxRecDepth 100000 in
set_option maxHeartbeats 1000000 in
theorem all_any (K : Nat) (cap : Array Value) (q : Ks → Bool) (l : List Ks) (a : Option Addr) (c : Nat) (w : World) (hl : KAt w w.heap.size a l) (hent : Enters Tryd.prog K)
    (HK : ∀ s ∈ l, ∀ W, Below w.heap.size w W → Calls Tryd.prog K (#[.agg #[.int .i64 s.nt, .int .u64 s.set.a, .int .u64 s.set.b, .int .u64 s.set.c, .int .u64 s.set.d]] ++ cap) W fun e W' => e = .returned (.bool (q s)) ∧ Below W.heap.size W W') :
    Calls Tryd.prog 63 #[.slice a l.length c, .func (.func K) #[] cap] w fun e w' => e = .returned (.bool (l.all q)) ∧ Below w.heap.size w w' := by
  have hlen := hl.len
  go_enter Tryd.func63, Tryd.ntmps63
  go_wp2
  go_loopw [9] (fun i W => ∃ k : Nat, k ≤ l.length ∧ i = .int .i64 k ∧ (l.take k).all q = true ∧ Below w.heap.size w W) (fun i _ => l.length - (intOf i).toNat)
  case atStart => exact ⟨0, by omega, rfl, rfl, Below.refl _ _⟩
  case round =>
    obtain ⟨k, hk, rfl, ha, hB⟩ := hrel
    by_cases hlt : k < l.length
    · obtain ⟨s, hs⟩ : ∃ s, l[k]? = some s := ⟨l[k], by simp [hlt]⟩
      obtain ⟨b, o, rfl, hb, hok, c0, c1, c2, c3, c4⟩ := (hl.keep hB).cells k s hs
      have H : Hid _ := HK s (List.mem_of_getElem? hs)
      have HA : Hid (l.all q = true → q s = true) := fun h => List.all_eq_true.1 h s (List.mem_of_getElem? hs)
      have HT : Hid (q s = true → (l.take (k + 1)).all q = true) := fun h => by rw [List.take_add_one, hs]; simpa [ha] using h
      clear HK ha
      unfold Enters at hent
      have hB1 := hB.alloc hB.size (.cells #[.int .i64 s.nt, .int .u64 s.set.a, .int .u64 s.set.b, .int .u64 s.set.c, .int .u64 s.set.d] 71)
      go_wp2_with (refine (H.out _ hB1).mono ?_)
      rintro e w2 ⟨rfl, hb2⟩
      have hB2 := below_of hB1 hb2
      generalize q s = x at *
      cases x
      · go_wp2
        go_ret
        refine ⟨?_, hB2⟩
        have := HA.out
        cases hx : l.all q
        · rfl
        · exact absurd (this hx) (by simp)
      · have hT := HT.out rfl
        go_wp2
        exact ⟨⟨k + 1, by omega, by go_num, hT, hB2⟩, by simp [intOf]; omega⟩
    · obtain rfl : k = l.length := by omega
      rw [List.take_length] at ha
      go_wp2
      go_ret
      exact ⟨by rw [ha]; rfl, hB⟩

def isN (n k : Int) : Bool := decide (0 ≤ k) && decide (k < n)
def Ks.okB (n : Int) (s : Ks) : Bool := s.nt == -1 || (isN n s.nt && s.set.same St.zero)
def Rl.okB (n : Int) (r : Rl) : Bool := isN n r.lhs && decide (r.rhs.length ≤ 80) && r.rhs.all (Ks.okB n)
def Gm.okB (G : Gm) : Bool := decide (1 ≤ G.nts) && decide (G.nts ≤ 4096) && isN G.nts G.start && decide (G.rules.length ≤ 8192) && G.rules.all (Rl.okB G.nts)

set_option maxRecDepth 100000 in
set_option maxHeartbeats 1000000 in
theorem isNt_any (n k : Int) (B : Nat) (w : World) (hc : w.cell? ⟨B, 0, none⟩ = some (.int .i64 n)) :
    Calls Tryd.prog 61 #[.int .i64 k, .pointer (some ⟨B, 0, none⟩)] w fun e w' => e = .returned (.bool (isN n k)) ∧ w' = w := by
  unfold isN
  by_cases h0 : 0 ≤ k
  · go_enter Tryd.func61, Tryd.ntmps61
    go_wp2
    go_ret
    exact ⟨by simp [h0], rfl⟩
  · have h1 : decide (0 ≤ k) = false := by simp; omega
    rw [h1]
    go_enter Tryd.func61, Tryd.ntmps61
    go_wp2
    go_ret
    exact ⟨rfl, rfl⟩
set_option maxRecDepth 100000 in
set_option maxHeartbeats 1000000 in
theorem isSym_any (n : Int) (s : Ks) (B C : Nat) (w : World) (hB : B < w.heap.size) (hC : C < w.heap.size) (hc : w.cell? ⟨B, 0, none⟩ = some (.int .i64 n)) (hf : w.cell? ⟨C, 0, none⟩ = some (.func (.func 61) #[] #[.pointer (some ⟨B, 0, none⟩)])) :
    Calls Tryd.prog 62 #[.agg #[.int .i64 s.nt, .int .u64 s.set.a, .int .u64 s.set.b, .int .u64 s.set.c, .int .u64 s.set.d], .pointer (some ⟨C, 0, none⟩)] w fun e w' => e = .returned (.bool (s.okB n)) ∧ Below w.heap.size w w' := by
  have he := fun w => eq49z s.set w
  have HK : Hid _ := fun k W h => isNt_any n k B W h
  have hcB : (w.alloc (.cells #[.int .i64 s.nt, .int .u64 s.set.a, .int .u64 s.set.b, .int .u64 s.set.c, .int .u64 s.set.d] 71)).cell? ⟨B, 0, none⟩ = some (.int .i64 n) := by rw [World.cell?_alloc_past _ _ _ hB]; exact hc
  unfold Ks.okB
  generalize s.set.same St.zero = z at *
  by_cases h1 : s.nt = -1
  · have e1 : (s.nt == -1) = true := by simp [h1]
    rw [e1]
    go_enter Tryd.func62, Tryd.ntmps62
    go_wp2
    go_ret
    exact ⟨rfl, (Below.refl _ _).alloc (Nat.le_refl _) _⟩
  · have e1 : (s.nt == -1) = false := by simp [h1]
    rw [e1]
    go_enter Tryd.func62, Tryd.ntmps62
    go_wp2_with (go_at_call 61; refine (HK.out _ _ hcB).mono ?_)
    rintro e w2 ⟨rfl, rfl⟩
    cases hx : isN n s.nt
    · go_wp2
      go_ret
      exact ⟨by rw [hx]; rfl, (Below.refl _ _).alloc (Nat.le_refl _) _⟩
    · go_wp2
      go_ret
      exact ⟨by rw [hx]; rfl, (Below.refl _ _).alloc (Nat.le_refl _) _⟩

def gV (G : Gm) (a : Option Addr) (c : Nat) : Value := .agg #[.int .i64 G.nts, .int .i64 G.start, .slice a G.rules.length c]
set_option maxRecDepth 100000 in
set_option maxHeartbeats 4000000 in
theorem gright_any (G : Gm) (a : Option Addr) (c : Nat) (w : World) (hR : RAt w w.heap.size a G.rules) :
    Calls Tryd.prog 39 #[.agg #[.int .i64 G.nts, .int .i64 G.start, .slice a G.rules.length c]] w fun e w' => e = .returned (.int .i64 (if G.okB then 0 else 3)) ∧ Below w.heap.size w w' := by
  have hlen := hR.len
  obtain ⟨res, HR⟩ : ∃ res : Int, Hid ((if G.okB then 0 else 3) = res) := ⟨_, rfl⟩
  rw [HR.out]
  have H0 : Hid (G.okB = true → res = 0) := fun h => by rw [← HR.out, h]; rfl
  have H3 : Hid (G.okB = false → res = 3) := fun h => by rw [← HR.out, h]; rfl
  clear HR
  have hmf := hmf
  have HK : Hid _ := fun k W h => isNt_any G.nts k w.heap.size W h
  have hc0 : ((w.alloc (.cells #[.int .i64 G.nts, .int .i64 G.start, .slice a G.rules.length c] 24)).alloc (.cells #[.func (.func 61) #[] #[.pointer (some ⟨w.heap.size, 0, none⟩)]] 96)).cell? ⟨w.heap.size, 0, none⟩ = some (.int .i64 G.nts) := by
    rw [World.cell?_alloc_past _ _ _ (by simp)]; exact cell_new 0 rfl
  have hB0 : Below w.heap.size w ((w.alloc (.cells #[.int .i64 G.nts, .int .i64 G.start, .slice a G.rules.length c] 24)).alloc (.cells #[.func (.func 61) #[] #[.pointer (some ⟨w.heap.size, 0, none⟩)]] 96)) := ((Below.refl _ _).alloc (Nat.le_refl _) _).alloc (by simp) _
  by_cases h1 : G.nts < 1
  · have HN : Hid (G.okB = false) := by show _ = _; unfold Gm.okB; simp [show ¬ 1 ≤ G.nts by omega]
    go_enter Tryd.func39, Tryd.ntmps39
    go_wp2
    go_ret
    exact ⟨by rw [H3.out HN.out]; rfl, hB0⟩
  have h1' : decide (G.nts < 1) = false := by simp; omega
  by_cases h2 : 4096 < G.nts
  · have HN : Hid (G.okB = false) := by show _ = _; unfold Gm.okB; simp [show ¬ G.nts ≤ 4096 by omega]
    go_enter Tryd.func39, Tryd.ntmps39
    go_wp2
    go_ret
    exact ⟨by rw [H3.out HN.out]; rfl, hB0⟩
  have h2' : decide (4096 < G.nts) = false := by simp; omega
  cases h3 : isN G.nts G.start
  · have HN : Hid (G.okB = false) := by show _ = _; unfold Gm.okB; simp [h3]
    go_enter Tryd.func39, Tryd.ntmps39
    go_wp2_with (go_at_call 61; refine (HK.out _ _ hc0).mono ?_; rw [h3])
    go_ret
    exact ⟨by rw [H3.out HN.out]; rfl, hB0⟩
  by_cases h4 : 8192 < G.rules.length
  · have HN : Hid (G.okB = false) := by show _ = _; unfold Gm.okB; simp [show ¬ G.rules.length ≤ 8192 by omega]
    have h4' : (8192 : Int) < G.rules.length := by omega
    go_enter Tryd.func39, Tryd.ntmps39
    go_wp2_with (go_at_call 61; refine (HK.out _ _ hc0).mono ?_; rw [h3])
    go_ret
    exact ⟨by rw [H3.out HN.out]; rfl, hB0⟩
  have h4' : decide ((8192 : Int) < G.rules.length) = false := by simp; omega
  have HO : Hid (G.okB = G.rules.all (Rl.okB G.nts)) := by
    show _ = _
    unfold Gm.okB; simp [show 1 ≤ G.nts by omega, show G.nts ≤ 4096 by omega, h3, show G.rules.length ≤ 8192 by omega]
  rw [HO.out] at H0 H3
  clear HO
  go_enter Tryd.func39, Tryd.ntmps39
  go_wp2_with (go_at_call 61; refine (HK.out _ _ hc0).mono ?_; rw [h3])
  generalize hW0 : ((w.alloc (.cells #[.int .i64 G.nts, .int .i64 G.start, .slice a G.rules.length c] 24)).alloc (.cells #[.func (.func 61) #[] #[.pointer (some ⟨w.heap.size, 0, none⟩)]] 96)) = W0 at *
  have hS0 : W0.heap.size = w.heap.size + 2 := by rw [← hW0]; simp
  have hf0 : W0.cell? ⟨w.heap.size + 1, 0, none⟩ = some (.func (.func 61) #[] #[.pointer (some ⟨w.heap.size, 0, none⟩)]) := by
    rw [← hW0]; have := cell_new (w := (w.alloc (.cells #[.int .i64 G.nts, .int .i64 G.start, .slice a G.rules.length c] 24))) (cs := #[.func (.func 61) #[] #[.pointer (some ⟨w.heap.size, 0, none⟩)]]) (t := 96) 0 rfl
    simp only [World.size_alloc] at this; exact this
  clear hW0
  go_loopw [33] (fun i W => ∃ k : Nat, k ≤ G.rules.length ∧ i = .int .i64 k ∧ (G.rules.take k).all (Rl.okB G.nts) = true ∧ Below (w.heap.size + 2) W0 W) (fun i _ => G.rules.length - (intOf i).toNat)
  case atStart => exact ⟨0, by omega, rfl, rfl, Below.refl _ _⟩
  case round =>
    obtain ⟨k, hk, rfl, ha, hB⟩ := hrel
    have hBw : Below w.heap.size w wr := hB0.trans (hB.mono (by omega))
    have hsz := hB.size
    by_cases hlt : k < G.rules.length
    · obtain ⟨r, hr⟩ : ∃ r, G.rules[k]? = some r := ⟨G.rules[k], by simp [hlt]⟩
      obtain ⟨b, o, sa, sc, rfl, hb, hK, c0, c1⟩ := (hR.keep hBw).cells k r hr
      have hkl := hK.len
      have HA : Hid (Rl.okB G.nts r = false → G.rules.all (Rl.okB G.nts) = false) := fun h => by
        cases hx : G.rules.all (Rl.okB G.nts)
        · rfl
        · exact absurd (List.all_eq_true.1 hx r (List.mem_of_getElem? hr)) (by simp [h])
      have HT : Hid (Rl.okB G.nts r = true → (G.rules.take (k + 1)).all (Rl.okB G.nts) = true) := fun h => by rw [List.take_add_one, hr]; simpa [ha] using h
      have d0 : wr.cell? ⟨w.heap.size, 0, none⟩ = some (.int .i64 G.nts) := (hB.cell (p := ⟨w.heap.size, 0, none⟩) (by simp)).trans hc0
      have d1 : wr.cell? ⟨w.heap.size + 1, 0, none⟩ = some (.func (.func 61) #[] #[.pointer (some ⟨w.heap.size, 0, none⟩)]) := (hB.cell (p := ⟨w.heap.size + 1, 0, none⟩) (by simp)).trans hf0
      obtain ⟨W1, hW1⟩ : ∃ W1, wr.alloc (.cells #[.int .i64 r.lhs, .slice sa r.rhs.length sc] 61) = W1 := ⟨_, rfl⟩
      have hB1 : Below wr.heap.size wr W1 := by rw [← hW1]; exact (Below.refl _ _).alloc (Nat.le_refl _) _
      have hs1 : W1.heap.size = wr.heap.size + 1 := by rw [← hW1]; simp
      have e0 : W1.cell? ⟨w.heap.size, 0, none⟩ = some (.int .i64 G.nts) := (hB1.cell (p := ⟨w.heap.size, 0, none⟩) (by simp; omega)).trans d0
      have e1 : W1.cell? ⟨w.heap.size + 1, 0, none⟩ = some (.func (.func 61) #[] #[.pointer (some ⟨w.heap.size, 0, none⟩)]) := (hB1.cell (p := ⟨w.heap.size + 1, 0, none⟩) (by simp; omega)).trans d1
      have e2 : W1.cell? ⟨wr.heap.size, 0, none⟩ = some (.int .i64 r.lhs) := by rw [← hW1]; exact cell_new 0 rfl
      have e3 : W1.cell? ⟨wr.heap.size, 1, none⟩ = some (.slice sa r.rhs.length sc) := by rw [← hW1]; exact cell_new 1 rfl
      have hBF : Below w.heap.size w W1 := hBw.trans (hB1.mono (by omega))
      have hB2 : Below (w.heap.size + 2) W0 W1 := hB.trans (hB1.mono (by omega))
      have H38 : Hid _ := fun (_ : Unit) => isNt_any G.nts r.lhs w.heap.size W1 e0
      have H40 : Hid _ := fun (_ : Unit) => all_any 62 #[.pointer (some ⟨w.heap.size + 1, 0, none⟩)] (Ks.okB G.nts) r.rhs sa sc W1 ((hK.keep (hB1.mono (by omega))).mono (by omega)) (enters_of Tryd.func62 (by kernel_rfl) rfl)
        (fun s hs W hW => isSym_any G.nts s w.heap.size (w.heap.size + 1) W (by have := hW.size; omega) (by have := hW.size; omega) ((hW.cell (p := ⟨w.heap.size, 0, none⟩) (by simp; omega)).trans e0) ((hW.cell (p := ⟨w.heap.size + 1, 0, none⟩) (by simp; omega)).trans e1))
      clear ha hr hR hc0 hf0 hB0 d0
      have HL : Hid (Rl.okB G.nts r = (isN G.nts r.lhs && decide (r.rhs.length ≤ 80) && r.rhs.all (Ks.okB G.nts))) := rfl
      cases hx1 : isN G.nts r.lhs
      · rw [hx1] at H38
        have HNO : Hid _ := HA.out (by rw [HL.out, hx1]; rfl)
        clear HA HT HL H40
        go_wp2_with (go_at_call 61; refine (H38.out ()).mono ?_; rintro e w2 ⟨rfl, rfl⟩)
        go_ret
        exact ⟨by rw [H3.out HNO.out]; rfl, hBF⟩
      · rw [hx1] at H38
        by_cases h80 : 80 < r.rhs.length
        · have HNO : Hid _ := HA.out (by rw [HL.out, decide_eq_false (show ¬ r.rhs.length ≤ 80 by omega)]; simp)
          have h80' : (80 : Int) < r.rhs.length := by omega
          clear HA HT HL H40
          go_wp2_with (go_at_call 61; refine (H38.out ()).mono ?_; rintro e w2 ⟨rfl, rfl⟩)
          go_ret
          exact ⟨by rw [H3.out HNO.out]; rfl, hBF⟩
        · have h80' : decide ((80 : Int) < r.rhs.length) = false := by simp; omega
          have h80a : decide (r.rhs.length ≤ 80) = true := by simp; omega
          rw [hx1, h80a] at HL
          clear h80a h80
          generalize r.rhs.all (Ks.okB G.nts) = x at *
          go_wp2_with (first | (go_at_call 61; refine (H38.out ()).mono ?_; rintro e w2 ⟨rfl, rfl⟩) | (go_at_call 63; refine (H40.out ()).mono ?_))
          rintro e w2 ⟨rfl, hb2⟩
          have hB3 : Below (w.heap.size + 2) W0 w2 := hB2.trans (hb2.mono (by omega))
          have hBF3 : Below w.heap.size w w2 := hBF.trans (hb2.mono (by omega))
          cases x
          · have HNO : Hid _ := HA.out HL.out
            go_wp2
            go_ret
            exact ⟨by rw [H3.out HNO.out]; rfl, hBF3⟩
          · have hyes := HT.out HL.out
            go_wp2
            exact ⟨⟨k + 1, by omega, by go_num, hyes, hB3⟩, by simp [intOf]; omega⟩
    · obtain rfl : k = G.rules.length := by omega
      rw [List.take_length] at ha
      have HA1 : Hid _ := ha
      clear ha
      go_wp2
      go_ret
      exact ⟨by rw [H0.out HA1.out]; rfl, hBw⟩

set_option maxRecDepth 100000 in
set_option maxHeartbeats 4000000 in
theorem gheavy_any (G : Gm) (a : Option Addr) (c : Nat) (m : Int) (w : World) (hR : RAt w w.heap.size a G.rules) :
    Calls Tryd.prog 14 #[.agg #[.int .i64 G.nts, .int .i64 G.start, .slice a G.rules.length c], .int .i64 m] w fun e w' => (∃ x, e = .returned (.bool x)) ∧ Below w.heap.size w w' := by
  have hlen := hR.len
  obtain ⟨W0, hW0⟩ : ∃ W0, w.alloc (.cells #[.int .i64 G.nts, .int .i64 G.start, .slice a G.rules.length c] 24) = W0 := ⟨_, rfl⟩
  have hB0 : Below w.heap.size w W0 := by rw [← hW0]; exact (Below.refl _ _).alloc (Nat.le_refl _) _
  have c0 : W0.cell? ⟨w.heap.size, 0, none⟩ = some (.int .i64 G.nts) := by rw [← hW0]; exact cell_new 0 rfl
  have c1 : W0.cell? ⟨w.heap.size, 1, none⟩ = some (.int .i64 G.start) := by rw [← hW0]; exact cell_new 1 rfl
  have c2 : W0.cell? ⟨w.heap.size, 2, none⟩ = some (.slice a G.rules.length c) := by rw [← hW0]; exact cell_new 2 rfl
  have hR0 := hR.keep hB0
  by_cases h1 : m < G.nts
  · go_enter Tryd.func14, Tryd.ntmps14
    go_wp2
    go_ret
    refine ⟨⟨true, rfl⟩, hB0⟩
  · by_cases h2 : m < (G.rules.length : Int)
    · go_enter Tryd.func14, Tryd.ntmps14
      go_wp2
      all_goals (go_ret; first | exact ⟨⟨_, rfl⟩, hB0⟩ | exact ⟨.inr rfl, hB0⟩ | exact ⟨.inl rfl, hB0⟩)
    · go_enter Tryd.func14, Tryd.ntmps14
      go_wp2
      go_loopw [5, 6] (fun nv iv W => W = W0 ∧ ∃ (n : Int) (k : Nat), k ≤ G.rules.length ∧ nv = .int .i64 n ∧ iv = .int .i64 k) (fun _ iv _ => G.rules.length - (intOf iv).toNat)
      case atStart => exact ⟨rfl, _, 0, by omega, rfl, rfl⟩
      case round =>
        obtain ⟨rfl, n, k, hk, rfl, rfl⟩ := hrel
        by_cases hlt : k < G.rules.length
        · obtain ⟨r, hr⟩ : ∃ r, G.rules[k]? = some r := ⟨G.rules[k], by simp [hlt]⟩
          obtain ⟨b, o, sa, sc, rfl, hb, hK, e0, e1⟩ := hR0.cells k r hr
          have hkI : (k : Int) < G.rules.length := by omega
          go_wp2
          all_goals first
            | (go_ret; first | exact ⟨⟨_, rfl⟩, hB0⟩ | exact ⟨.inr rfl, hB0⟩ | exact ⟨.inl rfl, hB0⟩)
            | exact ⟨⟨trivial, _, k + 1, by omega, rfl, by go_num⟩, by simp [intOf]; omega⟩
        · obtain rfl : k = G.rules.length := by omega
          go_wp2
          go_ret
          first | exact ⟨⟨_, rfl⟩, hB0⟩ | exact ⟨.inr rfl, hB0⟩ | exact ⟨.inl rfl, hB0⟩
end Go.Proofs.YtlnlkbkmnkjbhaaDoor
