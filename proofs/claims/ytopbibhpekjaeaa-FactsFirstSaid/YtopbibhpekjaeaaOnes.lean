/- Plain facts: the steps of counting a word's bits by masks and sums come to the number of its bits. -/
import Derived.Test.YtopbibhpekjaeaaPlain
namespace Go.Proofs.Ytopbibhpekjaeaa

def pc : Nat → Nat → Nat
  | 0, _ => 0
  | k + 1, x => x % 2 + pc k (x / 2)
theorem pc_le : ∀ (k x : Nat), pc k x ≤ k
  | 0, _ => Nat.le_refl _
  | k + 1, x => by have := pc_le k (x / 2); simp only [pc]; omega

theorem and_step (b y m M : Nat) (hb : b < 256) (hm : m < 256) : (b + 256 * y) &&& (m + 256 * M) = (b &&& m) + 256 * (y &&& M) := by
  have hlt : b &&& m < 256 := Nat.lt_of_le_of_lt Nat.and_le_left hb
  apply Nat.eq_of_testBit_eq
  intro i
  have e : ∀ (u v : Nat), u < 256 → (u + 256 * v).testBit i = if i < 8 then u.testBit i else v.testBit (i - 8) := by
    intro u v hu
    have h2 : u + 256 * v = 2 ^ 8 * v + u := by omega
    rw [h2, Nat.testBit_two_pow_mul_add v (by simpa using hu)]
  rw [Nat.testBit_and, e _ _ hb, e _ _ hm, e _ _ hlt]
  by_cases hi : i < 8
  · rw [if_pos hi, if_pos hi, if_pos hi, Nat.testBit_and]
  · rw [if_neg hi, if_neg hi, if_neg hi, Nat.testBit_and]

def mk (m : Nat) : Nat → Nat
  | 0 => 0
  | k + 1 => m + 256 * mk m k
def f1 (k x : Nat) : Nat := (x / 2 &&& mk 85 k) + (x &&& mk 85 k)
def f2 (k x : Nat) : Nat := (x / 4 &&& mk 51 k) + (x &&& mk 51 k)
def f3 (k x : Nat) : Nat := (x / 16 + x) &&& mk 15 k
def g1 (b : Nat) : Nat := (b / 2 &&& 85) + (b &&& 85)
def g2 (b : Nat) : Nat := (b / 4 &&& 51) + (b &&& 51)

theorem half_and : ∀ (t : Fin 2) (b : Fin 256), (b.val / 2 + 128 * t.val) &&& 85 = b.val / 2 &&& 85 := by decide +kernel
theorem quart_and : ∀ (t : Fin 4) (b : Fin 256), (b.val / 4 + 64 * t.val) &&& 51 = b.val / 4 &&& 51 := by decide +kernel
theorem g_facts : ∀ (b : Fin 256), g1 b.val < 256 ∧ g2 (g1 b.val) ≤ 68 ∧ g2 (g1 b.val) % 16 ≤ 4 ∧ (g2 (g1 b.val) / 16 + g2 (g1 b.val)) % 16 = pc 8 b.val := by decide +kernel

theorem f1_step (k b y : Nat) (hb : b < 256) : f1 (k + 1) (b + 256 * y) = g1 b + 256 * f1 k y := by
  unfold f1 g1
  have e1 : (b + 256 * y) / 2 = (b / 2 + 128 * (y % 2)) + 256 * (y / 2) := by omega
  rw [e1, mk, and_step _ _ _ _ (by omega) (by omega), and_step _ _ _ _ hb (by omega)]
  have h := half_and ⟨y % 2, Nat.mod_lt _ (by omega)⟩ ⟨b, hb⟩
  simp only at h
  rw [h]; omega
theorem f2_step (k b y : Nat) (hb : b < 256) : f2 (k + 1) (b + 256 * y) = g2 b + 256 * f2 k y := by
  unfold f2 g2
  have e1 : (b + 256 * y) / 4 = (b / 4 + 64 * (y % 4)) + 256 * (y / 4) := by omega
  rw [e1, mk, and_step _ _ _ _ (by omega) (by omega), and_step _ _ _ _ hb (by omega)]
  have h := quart_and ⟨y % 4, Nat.mod_lt _ (by omega)⟩ ⟨b, hb⟩
  simp only at h
  rw [h]; omega
theorem f12_step (k b y : Nat) (hb : b < 256) : f2 (k + 1) (f1 (k + 1) (b + 256 * y)) = g2 (g1 b) + 256 * f2 k (f1 k y) := by
  rw [f1_step k b y hb, f2_step _ _ _ (g_facts ⟨b, hb⟩).1]
theorem f12_zero (x : Nat) : f2 0 (f1 0 x) = 0 := by simp [f2, mk]
theorem f12_mod : ∀ (k x : Nat), f2 k (f1 k x) % 16 ≤ 4
  | 0, x => by rw [f12_zero]; omega
  | k + 1, x => by
    have hx : x = x % 256 + 256 * (x / 256) := by omega
    have hb : x % 256 < 256 := Nat.mod_lt _ (by omega)
    rw [hx, f12_step k _ _ hb]
    have := (g_facts ⟨x % 256, hb⟩).2.2.1
    simp only at this
    omega

def fd : Nat → Nat → Nat
  | 0, _ => 0
  | k + 1, x => pc 8 (x % 256) + 256 * fd k (x / 256)
theorem f_eq : ∀ (k x : Nat), f3 k (f2 k (f1 k x)) = fd k x
  | 0, x => by simp [f3, mk, fd]
  | k + 1, x => by
    have hx : x = x % 256 + 256 * (x / 256) := by omega
    have hb : x % 256 < 256 := Nat.mod_lt _ (by omega)
    have hm := f12_mod k (x / 256)
    have ih := f_eq k (x / 256)
    obtain ⟨_, q2, q3, q4⟩ := g_facts ⟨x % 256, hb⟩
    simp only at q2 q3 q4
    conv => lhs; rw [hx, f12_step k _ _ hb]
    unfold fd
    rw [← ih, ← q4]
    generalize f2 k (f1 k (x / 256)) = Z at *
    generalize g2 (g1 (x % 256)) = g at *
    unfold f3
    have e1 : (g + 256 * Z) / 16 + (g + 256 * Z) = (g / 16 + g + 16 * (Z % 16)) + 256 * (Z / 16 + Z) := by omega
    rw [e1, mk, and_step _ _ _ _ (by omega) (by omega)]
    have e2 : ∀ u : Nat, u &&& 15 = u % 16 := fun u => nat_mask4 u
    rw [e2]; omega

theorem pc_split : ∀ (j k x : Nat), pc (j + k) x = pc j (x % 2 ^ j) + pc k (x / 2 ^ j)
  | 0, k, x => by simp [pc]
  | j + 1, k, x => by
    rw [show j + 1 + k = (j + k) + 1 from by omega]
    simp only [pc]
    rw [pc_split j k (x / 2)]
    have e1 : x % 2 ^ (j + 1) % 2 = x % 2 := by
      rw [Nat.pow_succ, Nat.mul_comm]; exact Nat.mod_mul_right_mod _ _ _
    have e2 : x % 2 ^ (j + 1) / 2 = x / 2 % 2 ^ j := by
      rw [Nat.pow_succ, Nat.mul_comm]; exact Nat.mod_mul_right_div_self _ _ _
    have e3 : x / 2 ^ (j + 1) = x / 2 / 2 ^ j := by
      rw [Nat.pow_succ, Nat.mul_comm, Nat.div_div_eq_div_mul]
    rw [e1, e2, e3]; omega

theorem div_low (a m q : Nat) (h : a < m) : (a + m * q) / m = q := by
  rw [Nat.add_mul_div_left _ _ (by omega), Nat.div_eq_of_lt h, Nat.zero_add]
theorem two_add (p q r t T : Nat) (e1 : T = q + 256 * t) (e2 : t = r + 256 * p) : T + t = (q + r) + 256 * (r + p + 256 * p) := by
  subst e1 e2; omega
theorem ones_sum (h0 h1 h2 h3 h4 h5 h6 t2 t3 t4 t5 t6 t7 : Nat) (a0 : h0 ≤ 8) (a1 : h1 ≤ 8) (a2 : h2 ≤ 8) (a3 : h3 ≤ 8) (a4 : h4 ≤ 8) (a5 : h5 ≤ 8) (a6 : h6 ≤ 8) (a7 : t7 ≤ 8)
    (y : Nat) (hy : y = h0 + 256 * (h1 + 256 * t2)) (e2 : t2 = h2 + 256 * t3) (e3 : t3 = h3 + 256 * t4) (e4 : t4 = h4 + 256 * t5) (e5 : t5 = h5 + 256 * t6) (e6 : t6 = h6 + 256 * t7) :
    (y + y / 256 + (y + y / 256) / 65536 + (y + y / 256 + (y + y / 256) / 65536) / 4294967296) % 128 = h0 + h1 + h2 + h3 + h4 + h5 + h6 + t7 := by
  have d1 : y / 256 = h1 + 256 * t2 := by rw [hy]; exact div_low _ _ _ (by omega)
  have d2 : y + y / 256 = ((h0 + h1) + 256 * (h1 + h2)) + 65536 * (t2 + t3) := by
    rw [d1, hy]; clear d1 hy e3 e4 e5 e6; rw [e2]; omega
  have d3 : (y + y / 256) / 65536 = t2 + t3 := by rw [d2]; exact div_low _ _ _ (by omega)
  have d4 : t2 + t3 = (h2 + h3) + 256 * (h3 + h4) + 65536 * (t4 + t5) := by
    clear d1 d2 d3 hy e5 e6; rw [e2, e3, e4]; omega
  have d5 : t4 + t5 = (h4 + h5) + 256 * (h5 + h6) + 65536 * (t6 + t7) := by
    clear d1 d2 d3 d4 hy e2 e3; rw [e4, e5, e6]; omega
  have d6 : y + y / 256 + (y + y / 256) / 65536 = ((h0 + h1 + h2 + h3) + 256 * (h1 + h2 + h3 + h4) + 65536 * (h2 + h3 + h4 + h5) + 16777216 * (h3 + h4 + h5 + h6)) + 4294967296 * (t4 + t5 + t6 + t7) := by
    rw [d3, d2]
    generalize t2 + t3 = u at *
    rw [d4]
    have : t4 + t5 + t6 + t7 = (t4 + t5) + (t6 + t7) := by omega
    rw [this]
    generalize t4 + t5 = v at *
    rw [d5]
    generalize t6 + t7 = z at *
    clear d1 d2 d3 d4 d5 hy e2 e3 e4 e5 e6 this
    omega
  have d7 : (y + y / 256 + (y + y / 256) / 65536) / 4294967296 = t4 + t5 + t6 + t7 := by rw [d6]; exact div_low _ _ _ (by omega)
  rw [d7, d6]
  have d8 : t4 + t5 + t6 + t7 = (h4 + h5 + h6 + t7) + 256 * (t5 + t6 + t7) := by
    clear d1 d2 d3 d4 d5 d6 d7 hy e2 e3
    rw [e4]
    have : 256 * (t5 + t6 + t7) = 256 * t5 + 256 * (t6 + t7) := by omega
    rw [this]; clear this e4
    have e5' : t5 + t6 + t7 = h5 + h6 + t7 + 256 * (t6 + t7) := by rw [e5]; clear e5; omega
    omega
  rw [d8]
  generalize t5 + t6 + t7 = q
  clear d1 d2 d3 d4 d5 d6 d7 d8 hy e2 e3 e4 e5 e6
  have e : h0 + h1 + h2 + h3 + 256 * (h1 + h2 + h3 + h4) + 65536 * (h2 + h3 + h4 + h5) + 16777216 * (h3 + h4 + h5 + h6) + 4294967296 * (h4 + h5 + h6 + t7 + 256 * q) + (h4 + h5 + h6 + t7 + 256 * q)
      = (h0 + h1 + h2 + h3 + h4 + h5 + h6 + t7) + 128 * (2 * (h1 + h2 + h3 + h4) + 512 * (h2 + h3 + h4 + h5) + 131072 * (h3 + h4 + h5 + h6) + 33554432 * (h4 + h5 + h6 + t7 + 256 * q) + 2 * q) := by omega
  rw [e, Nat.add_mul_mod_self_left]
  exact Nat.mod_eq_of_lt (by omega)

def ones (x : Nat) : Nat :=
  let y := f3 8 (f2 8 (f1 8 x))
  let y4 := y + y / 256
  let y5 := y4 + y4 / 65536
  (y5 + y5 / 4294967296) % 128
theorem ones_eq (x : Nat) (hx : x < 18446744073709551616) : ones x = pc 64 x := by
  unfold ones
  rw [f_eq 8 x]
  have p : ∀ (k z : Nat), pc (8 + k) z = pc 8 (z % 256) + pc k (z / 256) := fun k z => pc_split 8 k z
  rw [show (64 : Nat) = 8 + (8 + (8 + (8 + (8 + (8 + (8 + 8)))))) from rfl]
  simp only [p, fd]
  have l : ∀ z, pc 8 z ≤ 8 := fun z => pc_le 8 z
  have hl : x / 256 / 256 / 256 / 256 / 256 / 256 / 256 % 256 = x / 256 / 256 / 256 / 256 / 256 / 256 / 256 := by
    apply Nat.mod_eq_of_lt
    simp only [Nat.div_div_eq_div_mul]
    omega
  rw [hl]
  simp only [Nat.mul_zero, Nat.add_zero]
  rw [ones_sum _ _ _ _ _ _ _ _ _ _ _ _ _ (l (x % 256)) (l (x / 256 % 256)) (l (x / 256 / 256 % 256)) (l (x / 256 / 256 / 256 % 256)) (l (x / 256 / 256 / 256 / 256 % 256)) (l (x / 256 / 256 / 256 / 256 / 256 % 256)) (l (x / 256 / 256 / 256 / 256 / 256 / 256 % 256)) (l (x / 256 / 256 / 256 / 256 / 256 / 256 / 256)) _ rfl rfl rfl rfl rfl rfl]
  simp only [Nat.add_assoc]

theorem pc_or_and : ∀ (k x y : Nat), pc k (x ||| y) + pc k (x &&& y) = pc k x + pc k y
  | 0, _, _ => rfl
  | k + 1, x, y => by
    simp only [pc]
    have ih := pc_or_and k (x / 2) (y / 2)
    have e1 : (x ||| y) / 2 = x / 2 ||| y / 2 := Nat.or_div_two
    have e2 : (x &&& y) / 2 = x / 2 &&& y / 2 := Nat.and_div_two
    rw [e1, e2]
    have q1 : (x ||| y) % 2 + (x &&& y) % 2 = x % 2 + y % 2 := by
      have a1 := Nat.or_mod_two_pow (a := x) (b := y) (n := 1)
      have a2 := Nat.and_mod_two_pow (a := x) (b := y) (n := 1)
      rw [Nat.pow_one] at a1 a2
      rw [a1, a2]
      have hx : x % 2 = 0 ∨ x % 2 = 1 := by omega
      have hy : y % 2 = 0 ∨ y % 2 = 1 := by omega
      rcases hx with hx | hx <;> rcases hy with hy | hy <;> rw [hx, hy] <;> decide
    omega

theorem pc_count : ∀ (k x : Nat), pc k x = (List.range k).countP (fun i => x.testBit i)
  | 0, _ => rfl
  | k + 1, x => by
    simp only [pc]
    rw [pc_count k (x / 2), List.range_succ_eq_map, List.countP_cons, List.countP_map]
    have e : (fun i => x.testBit i) ∘ Nat.succ = fun i => (x / 2).testBit i := by
      funext i; simp [Nat.testBit_succ]
    rw [e, Nat.testBit_zero]
    by_cases h : x % 2 = 1
    · simp [h]; omega
    · have : x % 2 = 0 := by omega
      simp [this]

end Go.Proofs.Ytopbibhpekjaeaa
