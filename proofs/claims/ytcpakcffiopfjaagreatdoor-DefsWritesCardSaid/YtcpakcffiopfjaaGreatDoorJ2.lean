/- The document's own Quote. -/
import Derived.Test.YtcpakcffiopfjaaGreatDoorF5
import Derived.Test.YtcpakcffiopfjaaGreatDoorA7
import Derived.Deep.RegionHeld3
import Derived.Deep.AppendLies
namespace Go.Proofs.YtcpakcffiopfjaaGreatDoor
open Go.RowKit
set_option linter.unusedVariables false
set_option linter.unusedSimpArgs false
set_option maxRecDepth 100000
set_option maxHeartbeats 16000000
set_option linter.unusedVariables false
set_option linter.unusedSimpArgs false
set_option maxRecDepth 100000
set_option maxHeartbeats 8000000

/-- What stands behind the backslash of a byte; 0: none. -/
def letq (n : Nat) : Nat := if n = 34 ∨ n = 92 then n else if n = 10 then 110 else if n = 9 then 116 else if n = 13 then 114 else 0
theorem letter_any (n : Nat) (hn : n < 256) (w : World) : Calls Tryz.prog 175 #[.int .u8 n] w fun e w' => e = .returned (.int .u8 (letq n : Nat)) ∧ w' = w := by
  unfold letq
  by_cases h1 : n = 34
  · subst h1; go_enter Tryz.func175, Tryz.ntmps175; go_wp2; go_ret; exact ⟨rfl, rfl⟩
  by_cases h2 : n = 92
  · subst h2; go_enter Tryz.func175, Tryz.ntmps175; go_wp2; go_ret; exact ⟨rfl, rfl⟩
  by_cases h3 : n = 10
  · subst h3; go_enter Tryz.func175, Tryz.ntmps175; go_wp2; go_ret; exact ⟨rfl, rfl⟩
  by_cases h4 : n = 9
  · subst h4; go_enter Tryz.func175, Tryz.ntmps175; go_wp2; go_ret; exact ⟨rfl, rfl⟩
  by_cases h5 : n = 13
  · subst h5; go_enter Tryz.func175, Tryz.ntmps175; go_wp2; go_ret; exact ⟨rfl, rfl⟩
  rw [if_neg (by omega), if_neg h3, if_neg h4, if_neg h5]
  have h1' : ¬ (n : Int) = 34 := by omega
  have h2' : ¬ (n : Int) = 92 := by omega
  have h3' : ¬ (n : Int) = 10 := by omega
  have h4' : ¬ (n : Int) = 9 := by omega
  have h5' : ¬ (n : Int) = 13 := by omega
  go_enter Tryz.func175, Tryz.ntmps175
  go_wp2
  go_ret
  exact ⟨rfl, rfl⟩
/-- The letter and the sign of a byte in quotes are of one mind. -/
theorem letq_sign : ∀ n : Fin 256, signq n.val = if letq n.val ≠ 0 then [92, UInt8.ofNat (letq n.val)] else if 32 ≤ n.val ∧ n.val ≤ 126 then [UInt8.ofNat n.val] else [92, 120, hexd (n.val / 16), hexd (n.val % 16)] := by decide +kernel

def hx (k : Nat) : Nat := if k < 10 then 48 + k else 87 + k
theorem hx_at : ∀ k : Fin 16, (⟨#[48, 49, 50, 51, 52, 53, 54, 55, 56, 57, 97, 98, 99, 100, 101, 102]⟩ : ByteArray)[k.val].toNat = hx k.val := by decide +kernel

theorem cells_new (w : World) (l : List Value) (t : TypeId) : ∀ j u, l[j]? = some u → (w.alloc (.cells l.toArray t)).cell? ((⟨w.heap.size, 0, none⟩ : Addr).add j) = some u := by
  intro j u hu
  have e : (⟨w.heap.size, 0, none⟩ : Addr).add j = ⟨w.heap.size, j, none⟩ := by simp [Addr.add]; omega
  rw [e]
  exact (Blk.new w t l.toArray).cell j (v := u) (by rw [List.getElem?_toArray]; exact hu)
def qn (l : List UInt8) : List Nat := l.map UInt8.toNat
theorem qn_app (a b : List UInt8) : qn (a ++ b) = qn a ++ qn b := List.map_append
theorem qn_len (a : List UInt8) : (qn a).length = a.length := List.length_map _
theorem qn_cells (l : List UInt8) : bytesV (qn l) = Lib.byteCells l := by
  unfold bytesV qn Lib.byteCells
  rw [List.map_map]; rfl
theorem wrap_hex : ∀ n : Fin 256, IntKind.i64.wrap ((IntKind.i64.wrap (n.val : Int)).tdiv 16) = ((n.val / 16 : Nat) : Int) ∧ (IntKind.i64.wrap (n.val : Int)).tmod 16 = ((n.val % 16 : Nat) : Int) := by decide +kernel
theorem hexd_hx : ∀ k : Fin 16, (hexd k.val).toNat = hx k.val := by decide +kernel
theorem rquote_any (L : List Nat) (a : Option Addr) (c : Nat) (w : World) (hL : ∀ n ∈ L, n < 256) (hn : L.length ≤ 65536) (hr : RowB w a L) :
    Calls Tryz.prog 129 #[.slice a L.length c] w fun e w' => e = .returned (.string ⟨(quoteL L).toArray⟩) ∧ Below w.heap.size w w' := by
  obtain ⟨i0, hinf, hz0, hz1, hz2⟩ := info_parts info5
  have hB0 : Below w.heap.size w w := Below.refl _ _
  go_enter Tryz.func129, Tryz.ntmps129
  go_wp2_with (at_builtin; refine wpList_append_own _ rfl _ _ 67 rfl w.heap.size 5 i0 (.int .u8 0) 1 1 Tryz.underlying67 hinf hz0 hz1 hz2 rfl (by decide) _ _ _ rfl ((World.ownsRow_nil w w.heap.size 5 1).alloc _) ⟨w.heap.size, 0, none⟩ 1 1 [.int .u8 34] rfl rfl ?ca1 ?ca2 ?ca3 ?ca4 ?ca5 ?_)
  try case ca1 => exact cells_new _ _ _
  case ca2 => first | rfl | (intro u hu; simp at hu; subst hu; rfl)
  case ca3 => unfold maxLen; omega
  case ca4 => omega
  case ca5 => first | omega | (simp; omega) | simp
  intro v' w2 hown' hgrow _
  have hB2 := (hB0.alloc hB0.size (.cells #[.int .u8 34] 5)).grown hgrow (by simp) (fun j hj => by simp [Value.ownBlock] at hj)
  obtain ⟨g', cap', rfl⟩ := ownsRow_succ hown'
  rw [show (0 : Nat) + 1 = 1 from rfl] at *
  go_wp2
  go_loopw [3, 4] (fun v iv W => ∃ k : Nat, k ≤ L.length ∧ iv = .int .i64 k ∧ W.ownsRow w.heap.size 5 1 v (qn ([34] ++ (L.take k).flatMap signq)).length (bytesV (qn ([34] ++ (L.take k).flatMap signq))) ∧ Below w.heap.size w W) (fun _ iv _ => L.length - (intOf iv).toNat)
  case atStart => exact ⟨0, Nat.zero_le _, rfl, by simpa [qn, bytesV] using hown', hB2⟩
  case round =>
    clear hown' hgrow hB2 hB0
    obtain ⟨k, hk, rfl, hrow, hB⟩ := hrel
    have hfl := flat_le (L.take k) (fun n h => hL n (List.mem_of_mem_take h))
    have htl : (L.take k).length ≤ k := List.length_take_le _ _
    have hsz := hB.size
    have hql : (qn ([34] ++ (L.take k).flatMap signq)).length ≤ 300000 := by rw [qn_len, List.length_append, List.length_singleton]; omega
    by_cases hlt : k < L.length
    · have hlt' : (k : Int) < L.length := by omega
      obtain ⟨bk, o, rfl, hl, hcell⟩ := hr k hlt
      replace hcell := (hB.cell (p := ⟨bk, o + k, none⟩) hl).trans hcell
      have HT : Hid _ := take_flat hlt
      have h256 := getD_lt hL k
      have HS : Hid _ := letq_sign ⟨L.getD k 0, h256⟩
      simp only at HS
      generalize L.getD k 0 = n at *
      have HL : Hid _ := fun w => letter_any n h256 w
      have hl256 : letq n < 256 := by unfold letq; repeat' split
                                      all_goals omega
      have HQ : Hid (∀ s : List UInt8, signq n = s → qn ([34] ++ (L.take (k + 1)).flatMap signq) = qn ([34] ++ (L.take k).flatMap signq) ++ qn s) := fun s hs => by rw [HT.out, hs, ← List.append_assoc, qn_app]
      clear HT
      generalize qn ([34] ++ (L.take k).flatMap signq) = acc at *
      generalize letq n = l at *
      by_cases hl0 : l = 0
      · subst hl0
        rw [if_neg (by simp)] at HS
        by_cases h32 : 32 ≤ n ∧ n ≤ 126
        · rw [if_pos h32] at HS
          have h1' : (32 : Int) ≤ n := by omega
          have h2' : (n : Int) ≤ 126 := by omega
          have HE : Hid (qn ([34] ++ (L.take (k + 1)).flatMap signq) = acc ++ [n]) := by
            show _ = _
            rw [HQ.out _ HS.out]; simp [qn, Nat.mod_eq_of_lt h256]
          clear HQ HS
          go_wp2_with (go_at_call 175; refine (HL.out _).mono ?_)
          rintro e1 w1 ⟨rfl, hw1⟩
          replace hw1 := hw1.symm
          subst hw1
          go_wp2_with (at_builtin; refine wpList_append_own _ rfl _ _ 67 rfl w.heap.size 5 i0 (.int .u8 0) 1 1 Tryz.underlying67 hinf hz0 hz1 hz2 rfl (by decide) _ _ _ rfl (hrow.alloc _) ⟨wr.heap.size, 0, none⟩ 1 1 [.int .u8 ((n : Nat) : Int)] rfl rfl ?cb1 ?cb2 ?cb3 ?cb4 ?cb5 ?_)
          try case cb1 => exact cells_new _ _ _
          case cb2 => first | rfl | (intro u hu; simp at hu; rcases hu with rfl | rfl | rfl | rfl <;> rfl) | (intro u hu; simp at hu; rcases hu with rfl | rfl <;> rfl) | (intro u hu; simp at hu; subst hu; rfl) | simp
          case cb3 => unfold maxLen; omega
          case cb4 => omega
          case cb5 => first | omega | (simp; omega)
          intro v' w2 hown' hgrow _
          have hB2 := (hB.alloc hB.size (.cells #[.int .u8 ((n : Nat) : Int)] 5)).grown hgrow (by have := hB.size; simp; omega) (fun j hj => by have := (hrow.lt j hj).1; omega)
          obtain ⟨g', cap', rfl⟩ := ownsRow_succ hown'
          go_wp2
          go_roundw
          case rel => exact ⟨k + 1, by omega, by go_num, by rw [HE.out, bytesV_snoc, List.length_append]; exact hown', hB2⟩
          case measure => simp [intOf]; omega
        · rw [if_neg h32] at HS
          have HE : Hid _ := HQ.out _ HS.out
          clear HQ HS
          have H32 : Hid _ := h32
          clear h32
          go_wp2_with (go_at_call 175; refine (HL.out _).mono ?_)
          rintro e1 w1 ⟨rfl, hw1⟩
          replace hw1 := hw1.symm
          subst hw1
          have h32 := H32.out
          clear H32
          obtain ⟨w1, w2'⟩ := wrap_hex ⟨n, h256⟩
          simp only at w1 w2'
          obtain ⟨m1, hm1⟩ : ∃ m, n / 16 = m := ⟨_, rfl⟩
          obtain ⟨m2, hm2⟩ : ∃ m, n % 16 = m := ⟨_, rfl⟩
          have l1 : m1 < 16 := by omega
          have l2 : m2 < 16 := by omega
          rw [hm1] at w1 HE
          rw [hm2] at w2' HE
          have q1 : (m1 : Int) < 16 := by omega
          have q2 : (m2 : Int) < 16 := by omega
          have hx1 := hx_at ⟨m1, l1⟩
          have hx2 := hx_at ⟨m2, l2⟩
          have hd1 := hexd_hx ⟨m1, l1⟩
          have hd2 := hexd_hx ⟨m2, l2⟩
          simp only at hx1 hx2 hd1 hd2
          replace HE : Hid (qn ([34] ++ (L.take (k + 1)).flatMap signq) = acc ++ [92, 120, hx m1, hx m2]) := by
            show _ = _
            rw [HE.out]; simp [qn, hd1, hd2]
          clear hd1 hd2 hm1 hm2
          generalize hx m1 = v1 at *
          generalize hx m2 = v2 at *
          by_cases h32a : 32 ≤ n
          · have h1' : (32 : Int) ≤ n := by omega
            have h2' : ¬ (n : Int) ≤ 126 := fun h => h32 ⟨h32a, by omega⟩
            clear h32
            go_wp2
            go_region_held3 (fun _ => True) (trivial) ((refine step_append_lies _ (by rfl) _ _ _ (by rfl) w.heap.size 5 i0 _ 1 1 Tryz.underlying67 hinf hz0 hz1 hz2 rfl (by omega) u3 acc.length (bytesV acc) (by rfl) ((hrow.alloc _).drew) ⟨wr.heap.size, 0, none⟩ 4 4 [.int .u8 92, .int .u8 120, .int .u8 ((v1 : Nat) : Int), .int .u8 ((v2 : Nat) : Int)] (by rfl) (by rfl) (World.news_of_block (cs := #[.int .u8 92, .int .u8 120, .int .u8 ((v1 : Nat) : Int), .int .u8 ((v2 : Nat) : Int)]) (t := 5) (fr := (0, 0)) (heap_alloc_new wr _)) (by simp [Value.oneCell']) (by omega) (by unfold maxLen; omega) (by omega) (by simp; omega) (wr.heap.size + 1) (by simp) ?_; intro g1 cap1 w1 hown1 hgrow hat hlt1))
            all_goals try go_wp2
            all_goals exact ⟨⟨k + 1, by omega, by go_num, by rw [HE.out, show bytesV (acc ++ [92, 120, v1, v2]) = bytesV acc ++ [.int .u8 92, .int .u8 120, .int .u8 ((v1 : Nat) : Int), .int .u8 ((v2 : Nat) : Int)] by simp [bytesV], List.length_append]; exact hown1, ((hB.alloc hB.size (.cells #[.int .u8 92, .int .u8 120, .int .u8 ((v1 : Nat) : Int), .int .u8 ((v2 : Nat) : Int)] 5)).drew).grown hgrow (by have := hB.size; simp; omega) (fun j hj => by have := (hrow.lt j hj).1; omega)⟩, by simp [intOf]; omega⟩
          · have h1' : ¬ (32 : Int) ≤ n := by omega
            clear h32
            go_wp2
            go_region_held3 (fun _ => True) (trivial) ((refine step_append_lies _ (by rfl) _ _ _ (by rfl) w.heap.size 5 i0 _ 1 1 Tryz.underlying67 hinf hz0 hz1 hz2 rfl (by omega) u3 acc.length (bytesV acc) (by rfl) ((hrow.alloc _).drew) ⟨wr.heap.size, 0, none⟩ 4 4 [.int .u8 92, .int .u8 120, .int .u8 ((v1 : Nat) : Int), .int .u8 ((v2 : Nat) : Int)] (by rfl) (by rfl) (World.news_of_block (cs := #[.int .u8 92, .int .u8 120, .int .u8 ((v1 : Nat) : Int), .int .u8 ((v2 : Nat) : Int)]) (t := 5) (fr := (0, 0)) (heap_alloc_new wr _)) (by simp [Value.oneCell']) (by omega) (by unfold maxLen; omega) (by omega) (by simp; omega) (wr.heap.size + 1) (by simp) ?_; intro g1 cap1 w1 hown1 hgrow hat hlt1))
            all_goals try go_wp2
            all_goals exact ⟨⟨k + 1, by omega, by go_num, by rw [HE.out, show bytesV (acc ++ [92, 120, v1, v2]) = bytesV acc ++ [.int .u8 92, .int .u8 120, .int .u8 ((v1 : Nat) : Int), .int .u8 ((v2 : Nat) : Int)] by simp [bytesV], List.length_append]; exact hown1, ((hB.alloc hB.size (.cells #[.int .u8 92, .int .u8 120, .int .u8 ((v1 : Nat) : Int), .int .u8 ((v2 : Nat) : Int)] 5)).drew).grown hgrow (by have := hB.size; simp; omega) (fun j hj => by have := (hrow.lt j hj).1; omega)⟩, by simp [intOf]; omega⟩
      · have hl0' : ¬ (l : Int) = 0 := by omega
        rw [if_pos hl0] at HS
        have HE : Hid (qn ([34] ++ (L.take (k + 1)).flatMap signq) = acc ++ [92, l]) := by
          show _ = _
          rw [HQ.out _ HS.out]; simp [qn, Nat.mod_eq_of_lt hl256]
        clear HQ HS
        go_wp2_with (go_at_call 175; refine (HL.out _).mono ?_)
        rintro e1 w1 ⟨rfl, hw1⟩
        replace hw1 := hw1.symm
        subst hw1
        go_wp2_with (at_builtin; refine wpList_append_own _ rfl _ _ 67 rfl w.heap.size 5 i0 (.int .u8 0) 1 1 Tryz.underlying67 hinf hz0 hz1 hz2 rfl (by decide) _ _ _ rfl (hrow.alloc _) ⟨wr.heap.size, 0, none⟩ 2 2 [.int .u8 92, .int .u8 ((l : Nat) : Int)] rfl rfl ?cc1 ?cc2 ?cc3 ?cc4 ?cc5 ?_)
        try case cc1 => exact cells_new _ _ _
        case cc2 => first | rfl | (intro u hu; simp at hu; rcases hu with rfl | rfl | rfl | rfl <;> rfl) | (intro u hu; simp at hu; rcases hu with rfl | rfl <;> rfl) | (intro u hu; simp at hu; subst hu; rfl) | simp
        case cc3 => unfold maxLen; omega
        case cc4 => omega
        case cc5 => first | omega | (simp; omega)
        intro v' w2 hown' hgrow _
        have hB2 := (hB.alloc hB.size (.cells #[.int .u8 92, .int .u8 ((l : Nat) : Int)] 5)).grown hgrow (by have := hB.size; simp; omega) (fun j hj => by have := (hrow.lt j hj).1; omega)
        obtain ⟨g', cap', rfl⟩ := ownsRow_succ hown'
        go_wp2
        go_roundw
        case rel => exact ⟨k + 1, by omega, by go_num, by rw [HE.out, show bytesV (acc ++ [92, l]) = bytesV acc ++ [.int .u8 92, .int .u8 ((l : Nat) : Int)] by simp [bytesV], List.length_append]; exact hown', hB2⟩
        case measure => simp [intOf]; omega
    · obtain rfl : k = L.length := by omega
      have hlt' : ¬ (L.length : Int) < L.length := by omega
      rw [List.take_length] at hrow hql hfl
      obtain ⟨acc, hacc⟩ : ∃ acc, qn ([34] ++ L.flatMap signq) = acc := ⟨_, rfl⟩
      rw [hacc] at hrow hql
      have HA : Hid _ := hacc
      clear hk hlt htl hacc hfl
      go_wp2_with (at_builtin; refine wpList_append_own _ rfl _ _ 67 rfl w.heap.size 5 i0 (.int .u8 0) 1 1 Tryz.underlying67 hinf hz0 hz1 hz2 rfl (by decide) _ _ _ rfl (hrow.alloc _) ⟨wr.heap.size, 0, none⟩ 1 1 [.int .u8 34] rfl rfl ?cd1 ?cd2 ?cd3 ?cd4 ?cd5 ?_)
      try case cd1 => exact cells_new _ _ _
      case cd2 => first | rfl | (intro u hu; simp at hu; rcases hu with rfl | rfl | rfl | rfl <;> rfl) | (intro u hu; simp at hu; rcases hu with rfl | rfl <;> rfl) | (intro u hu; simp at hu; subst hu; rfl) | simp
      case cd3 => unfold maxLen; omega
      case cd4 => omega
      case cd5 => first | omega | (simp; omega)
      intro v' w2 hown' hgrow _
      have hB2 := (hB.alloc hB.size (.cells #[.int .u8 34] 5)).grown hgrow (by have := hB.size; simp; omega) (fun j hj => by have := (hrow.lt j hj).1; omega)
      obtain ⟨g', cap', rfl⟩ := ownsRow_succ hown'
      have HCV := row_conv (l := quoteL L) (base := w.heap.size) (W := w2) (by
        have e : acc ++ [34] = qn (quoteL L) := (by rw [← HA.out]; unfold quoteL; rw [qn_app _ [34]]; rfl)
        have e2 : (quoteL L).length = acc.length + 1 := (by rw [← qn_len, ← e, List.length_append]; rfl)
        rw [e2, ← qn_cells, ← e, bytesV_snoc]; exact hown')
      clear HA
      go_wp2
      go_ret
      exact ⟨rfl, hB2⟩
end Go.Proofs.YtcpakcffiopfjaaGreatDoor
