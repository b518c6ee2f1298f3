/- Texts in quotes, read: escape.Read, readQuoted and Unquote at every text. -/
import Derived.Test.YtlkcadibjmfmcaaDoorPd
import Derived.Deep.DrawnRows
import Derived.OwnWalk
import Derived.BigQuiet
import Derived.Deep.QuietTactic
namespace Go.Proofs.YtlkcadibjmfmcaaDoor
open Go.RowKit

theorem setCell_drewN (w : World) (n : Nat) (a : Addr) (v : Value) : (w.drewN n).setCell a v = (w.setCell a v).drewN n := rfl
/-- What a hexadecimal digit says; -1: it is none. -/
def dig (n : Nat) : Int := if 48 ≤ n ∧ n ≤ 57 then (n : Int) - 48 else if 97 ≤ n ∧ n ≤ 102 then (n : Int) - 87 else if 65 ≤ n ∧ n ≤ 70 then (n : Int) - 55 else -1
theorem dig_lo (n : Nat) : -1 ≤ dig n := by unfold dig; split <;> (try split) <;> (try split) <;> omega
theorem dig_hi (n : Nat) : dig n < 16 := by unfold dig; split <;> (try split) <;> (try split) <;> omega
set_option maxRecDepth 100000 in
set_option maxHeartbeats 1000000 in
theorem digit_any (n : Nat) (w : World) (hn : n < 256) :
    Calls Tryd.prog 110 #[.int .u8 n] w fun e w' => e = .returned (.int .i64 (dig n)) ∧ w' = w := by
  have H : Hid (dig n = if 48 ≤ n ∧ n ≤ 57 then (n : Int) - 48 else if 97 ≤ n ∧ n ≤ 102 then (n : Int) - 87 else if 65 ≤ n ∧ n ≤ 70 then (n : Int) - 55 else -1) := rfl
  go_enter Tryd.func110, Tryd.ntmps110
  go_wp2
  all_goals go_ret
  all_goals (refine ⟨ret_int ?_, rfl⟩; rw [H.out]; repeat' split)
  all_goals omega
theorem Below.of_drewN (w : World) (n : Nat) : Below w.heap.size w (w.drewN n) := ⟨rfl, rfl, rfl, Nat.le_refl _, fun _ _ => rfl⟩
theorem or_hex : ∀ a b : Fin 16, bits .or .i64 ((a.val : Int) * 16) (b.val : Int) % 256 = ((a.val * 16 + b.val : Nat) : Int) := by decide +kernel
/-- The short signs of texts in quotes. -/
def shortq (n : Nat) : Int := Lib.indexByte [110, 116, 114, 34, 92] n.toUInt8
def saidq (i : Nat) : Nat := [10, 9, 13, 34, 92].getD i 0
/-- The sign at the beginning of a list: the byte that it says, and how many bytes it has (0: it is none). -/
def rdq (x : ByteArray) : Nat × Nat :=
  if x.size < 2 ∨ bt x 0 ≠ 92 then (0, 0)
  else if 0 ≤ shortq (bt x 1) then (saidq (shortq (bt x 1)).toNat, 2)
  else if x.size < 4 ∨ bt x 1 ≠ 120 then (0, 0)
  else if dig (bt x 2) < 0 ∨ dig (bt x 3) < 0 then (0, 0)
  else ((dig (bt x 2)).toNat * 16 + (dig (bt x 3)).toNat, 4)
def rdql (l : List UInt8) : Nat × Nat := rdq ⟨l.toArray⟩
/-- What comes of a text in quotes: its bytes, the place behind it, or a fault's place and code. -/
structure Quo where
  bytes : List Nat
  fin : Nat
  fat : Nat
  code : Nat
/-- Reading on, behind the first quote, at place k. -/
def quo : Nat → List UInt8 → Nat → List Nat → Quo
  | 0, _, _, _ => ⟨[], 0, 0, 13⟩
  | _ + 1, [], _, _ => ⟨[], 0, 0, 13⟩
  | f + 1, c :: l, k, acc =>
    if c.toNat = 34 then ⟨acc, k + 1, 0, 0⟩
    else if c.toNat = 92 then (if (rdql (c :: l)).2 = 0 then ⟨[], 0, k, 12⟩ else quo f ((c :: l).drop (rdql (c :: l)).2) (k + (rdql (c :: l)).2) (acc ++ [(rdql (c :: l)).1]))
    else if plainq c.toNat then quo f l (k + 1) (acc ++ [c.toNat])
    else ⟨[], 0, k, 11⟩
def quoted (l : List UInt8) : Quo := quo l.length (l.drop 1) 1 []


theorem shortq_bd (n : Nat) : shortq n < 5 := by
  have : ∀ c : Fin 256, Lib.indexByte [110, 116, 114, 34, 92] (UInt8.ofNat c.val) < 5 := by decide +kernel
  have h := this ⟨n % 256, Nat.mod_lt _ (by omega)⟩
  have e : UInt8.ofNat (n % 256) = UInt8.ofNat n := by
    apply UInt8.toNat_inj.1; simp
  simp only at h
  rw [e] at h; exact h
theorem saidq_at : ∀ i : Fin 5, (⟨#[10, 9, 13, 34, 92]⟩ : ByteArray)[i.val].toNat = saidq i.val := by decide +kernel
theorem shortq_any (n : Nat) (w : World) :
    Calls Tryd.prog 95 #[.string ⟨#[110, 116, 114, 34, 92]⟩, .int .u8 n] w fun e w' => e = .returned (.int .i64 (shortq n)) ∧ w' = w := idx_any _ n w
set_option maxRecDepth 100000 in
set_option maxHeartbeats 2000000 in
theorem rdq_any (x : ByteArray) (w : World) :
    Calls Tryd.prog 106 #[.string x, .string ⟨#[110, 116, 114, 34, 92]⟩, .string ⟨#[10, 9, 13, 34, 92]⟩] w fun e w' => e = .returned (.tuple #[.int .u8 (rdq x).1, .int .i64 (rdq x).2]) ∧ ∃ nq, w' = w.drewN nq := by
  have H : Hid (rdq x = _) := rdq.eq_1 x
  by_cases h1 : x.size < 2
  · rw [if_pos (Or.inl h1)] at H
    have h1' : (x.size : Int) < 2 := by omega
    rw [show rdq x = _ from H]
    clear H
    go_enter Tryd.func106, Tryd.ntmps106
    go_wp2
    exact bodyPost_ret (v := .tuple #[.int .u8 0, .int .i64 0]) (by simp [results, Tryd.results106, go_sem]) rfl ⟨rfl, 0, rfl⟩
  have k0 : 0 < x.size := by omega
  have k1 : 1 < x.size := by omega
  have b0 := bt_eq x 0 k0
  by_cases h2 : bt x 0 = 92
  · rw [if_neg (by simp [h1, h2])] at H
    rw [h2] at b0
    have b1 := bt_eq x 1 k1
    have HS : Hid _ := fun w => shortq_any (bt x 1) w
    have hs := shortq_bd (bt x 1)
    have hl := bt_lt x 1
    by_cases h3 : 0 ≤ shortq (bt x 1)
    · rw [if_pos h3] at H
      obtain ⟨i, he⟩ := Int.eq_ofNat_of_zero_le h3
      rw [he] at HS H hs
      have sa := saidq_at ⟨i, by omega⟩
      simp only [Int.toNat_natCast] at H
      rw [show rdq x = _ from H]
      clear H he h3
      have hi : i < 5 := by omega
      go_enter Tryd.func106, Tryd.ntmps106
      go_wp2_with (go_at_call 95; refine (HS.out _).mono ?_; rintro e w' ⟨rfl, rfl⟩)
      exact bodyPost_ret (v := .tuple #[.int .u8 (saidq i), .int .i64 2]) (by simp [results, Tryd.results106, go_sem]) rfl ⟨rfl, 0, rfl⟩
    · rw [if_neg h3] at H
      by_cases h4 : x.size < 4
      · rw [if_pos (Or.inl h4)] at H
        rw [show rdq x = _ from H]
        clear H
        go_enter Tryd.func106, Tryd.ntmps106
        go_wp2_with (go_at_call 95; refine (HS.out _).mono ?_; rintro e w' ⟨rfl, rfl⟩)
        exact bodyPost_ret (v := .tuple #[.int .u8 0, .int .i64 0]) (by simp [results, Tryd.results106, go_sem]) rfl ⟨rfl, 0, rfl⟩
      · by_cases h5 : bt x 1 = 120
        · rw [if_neg (by simp [h4, h5])] at H
          have b2 := bt_eq x 2 (by omega)
          have b3 := bt_eq x 3 (by omega)
          have k2 : 2 < x.size := by omega
          have k3 : 3 < x.size := by omega
          have HD2 : Hid _ := fun w => digit_any (bt x 2) w (bt_lt x 2)
          have HD3 : Hid _ := fun w => digit_any (bt x 3) w (bt_lt x 3)
          rw [h5] at HS
          have l2 := dig_lo (bt x 2)
          have l3 := dig_lo (bt x 3)
          have u2 := dig_hi (bt x 2)
          have u3 := dig_hi (bt x 3)
          generalize dig (bt x 2) = d2 at *
          generalize dig (bt x 3) = d3 at *
          have k2i : (2 : Int) < x.size := by omega
          have k3i : (3 : Int) < x.size := by omega
          by_cases h6 : d2 < 0
          · rw [if_pos (Or.inl h6)] at H
            rw [show rdq x = _ from H]
            clear H
            go_enter Tryd.func106, Tryd.ntmps106
            go_wp2_with (go_at_call 95; refine (HS.out _).mono ?_; rintro e w' ⟨rfl, rfl⟩)
            go_quiet (first | (go_at_call_of 110 (bt x 2); exact Calls.quiet_of_same (HD2.out _)) | (go_at_call_of 110 (bt x 3); exact Calls.quiet_of_same (HD3.out _)))
            go_wp2
            exact bodyPost_ret (v := .tuple #[.int .u8 0, .int .i64 0]) (by simp [results, Tryd.results106, go_sem]) rfl ⟨rfl, nq, rfl⟩
          · by_cases h7 : d3 < 0
            · rw [if_pos (Or.inr h7)] at H
              rw [show rdq x = _ from H]
              clear H
              go_enter Tryd.func106, Tryd.ntmps106
              go_wp2_with (go_at_call 95; refine (HS.out _).mono ?_; rintro e w' ⟨rfl, rfl⟩)
              go_quiet (first | (go_at_call_of 110 (bt x 2); exact Calls.quiet_of_same (HD2.out _)) | (go_at_call_of 110 (bt x 3); exact Calls.quiet_of_same (HD3.out _)))
              go_wp2
              exact bodyPost_ret (v := .tuple #[.int .u8 0, .int .i64 0]) (by simp [results, Tryd.results106, go_sem]) rfl ⟨rfl, nq, rfl⟩
            · rw [if_neg (by omega)] at H
              obtain ⟨e2, rfl⟩ := Int.eq_ofNat_of_zero_le (show 0 ≤ d2 by omega)
              obtain ⟨e3, rfl⟩ := Int.eq_ofNat_of_zero_le (show 0 ≤ d3 by omega)
              simp only [Int.toNat_natCast] at H
              rw [show rdq x = _ from H]
              clear H
              go_enter Tryd.func106, Tryd.ntmps106
              go_wp2_with (go_at_call 95; refine (HS.out _).mono ?_; rintro e w' ⟨rfl, rfl⟩)
              go_quiet (first | (go_at_call_of 110 (bt x 2); exact Calls.quiet_of_same (HD2.out _)) | (go_at_call_of 110 (bt x 3); exact Calls.quiet_of_same (HD3.out _)))
              go_wp2
              have q := or_hex ⟨e2, by omega⟩ ⟨e3, by omega⟩
              exact bodyPost_ret (v := .tuple #[.int .u8 ((e2 * 16 + e3 : Nat) : Int), .int .i64 4]) (by simp only [← q]; simp [results, Tryd.results106, go_sem]) rfl ⟨rfl, nq, rfl⟩
        · rw [if_pos (Or.inr h5)] at H
          rw [show rdq x = _ from H]
          clear H
          have b2 : ((bt x 1 : Int) != 120) = true := by simp; omega
          go_enter Tryd.func106, Tryd.ntmps106
          go_wp2_with (go_at_call 95; refine (HS.out _).mono ?_; rintro e w' ⟨rfl, rfl⟩)
          exact bodyPost_ret (v := .tuple #[.int .u8 0, .int .i64 0]) (by simp [results, Tryd.results106, go_sem]) rfl ⟨rfl, 0, rfl⟩
  · rw [if_pos (Or.inr h2)] at H
    rw [show rdq x = _ from H]
    clear H
    have b2 : ((bt x 0 : Int) != 92) = true := by simp; omega
    go_enter Tryd.func106, Tryd.ntmps106
    go_wp2
    exact bodyPost_ret (v := .tuple #[.int .u8 0, .int .i64 0]) (by simp [results, Tryd.results106, go_sem]) rfl ⟨rfl, 0, rfl⟩
def Blk (W : World) (b : Nat) (t : TypeId) (cs : Array Value) : Prop := W.heap[b]? = some (.cells cs t (0, 0))
section
variable {W W' : World} {b : Nat} {t : TypeId} {cs : Array Value}
theorem Blk.lt (h : Blk W b t cs) : b < W.heap.size := heap_lt h
theorem Blk.cell (h : Blk W b t cs) (i : Nat) {v : Value} (hv : cs[i]? = some v) : W.cell? ⟨b, i, none⟩ = some v := by
  simp [World.cell?, show W.heap[b]? = _ from h, hv]
theorem Blk.frozen (h : Blk W b t cs) (i : Nat) : W.frozen? ⟨b, i, none⟩ = false := by simp [World.frozen?, show W.heap[b]? = _ from h]
theorem Blk.new (W : World) (t : TypeId) (cs : Array Value) : Blk (W.alloc (.cells cs t)) W.heap.size t cs := World.alloc_heap_new W _
theorem Blk.kept {row : Option Nat} (h : Blk W b t cs) (hg : W.grownBy W' row) (hne : some b ≠ row) : Blk W' b t cs := (hg.block b h.lt hne).trans h
theorem Blk.alloc (h : Blk W b t cs) (o : Obj) : Blk (W.alloc o) b t cs := h.kept (World.grownBy_alloc W o none) (by simp)
theorem Blk.below {B : Nat} (h : Blk W b t cs) (hb : Below B W W') (hB : b < B) : Blk W' b t cs := (hb.block b hB).trans h
theorem Blk.after (h : Blk W b t cs) (hb : Below W.heap.size W W') : Blk W' b t cs := h.below hb h.lt
theorem Blk.set (h : Blk W b t cs) (i : Nat) (v : Value) : Blk (W.setCell ⟨b, i, none⟩ v) b t (cs.setIfInBounds i v) := by
  obtain ⟨hlt, hk⟩ := Array.getElem?_eq_some_iff.1 h
  show (W.heap.modify b _)[b]? = _
  rw [Array.getElem?_eq_getElem (by rw [Array.size_modify]; exact hlt), Array.getElem_modify_self, hk]
  rfl
theorem grownBy_setCell (W : World) (b i : Nat) (v : Value) : W.grownBy (W.setCell ⟨b, i, none⟩ v) (some b) :=
  ⟨rfl, rfl, rfl, (KeepsWalks.setCell W _ v).size, fun k _ hk => Below.heap_setCell _ _ _ k (fun e => hk (by rw [e]))⟩
theorem Blk.put (h : Blk W b t cs) (b' i : Nat) (v : Value) (hne : b ≠ b') : Blk (W.setCell ⟨b', i, none⟩ v) b t cs := h.kept (grownBy_setCell W b' i v) (fun e => hne (Option.some.inj e))
theorem Blk.not_row (h : Blk W b t cs) {e : TypeId} (hte : t ≠ e) {base size k : Nat} {v : Value} {xs : List Value} (hr : W.ownsRow base e size v k xs) : some b ≠ v.ownBlock := by
  rcases hr.2 with ⟨rfl, _⟩ | ⟨g, cap, cur, rfl, _, hgb, _⟩
  · simp [Value.ownBlock]
  · intro e'
    obtain rfl : b = g := by simpa [Value.ownBlock] using e'
    have := (show W.heap[b]? = _ from h).symm.trans hgb
    simp at this
    exact hte this.2
end
theorem row_belowB {B C : Nat} {e : TypeId} {k : Nat} {v : Value} {n : Nat} {xs : List Value} {W W' : World} (h : W.ownsRow B e k v n xs) (hb : Below C W W') (hc : ∀ g, v.ownBlock = some g → g < C) : W'.ownsRow B e k v n xs := by
  refine ⟨h.1, ?_⟩
  rcases h.2 with h0 | ⟨g, cap, cur, hv, hbg, hg, rest⟩
  · exact .inl h0
  · exact .inr ⟨g, cap, cur, hv, hbg, (hb.block g (hc g (by rw [hv]; rfl))).trans hg, rest⟩
theorem row_mono {B B' : Nat} {e : TypeId} {k : Nat} {v : Value} {n : Nat} {xs : List Value} {W : World} (h : W.ownsRow B e k v n xs) (hb : B' ≤ B) : W.ownsRow B' e k v n xs := by
  refine ⟨h.1, ?_⟩
  rcases h.2 with h0 | ⟨g, cap, cur, hv, hbg, rest⟩
  · exact .inl h0
  · exact .inr ⟨g, cap, cur, hv, Nat.le_trans hb hbg, rest⟩
theorem row_put {base b i : Nat} {e : TypeId} {size : Nat} {v : Value} {n : Nat} {xs : List Value} {W : World} (h : W.ownsRow base e size v n xs) (hb : b < base) (u : Value) : (W.setCell ⟨b, i, none⟩ u).ownsRow base e size v n xs := by
  refine h.kept (grownBy_setCell W b i u) ?_
  cases hv : v.ownBlock with
  | none => exact .inl rfl
  | some g => right; intro e; have := (h.lt g hv).1; simp at e; omega
def bytesV (l : List Nat) : List Value := l.map fun (n : Nat) => .int .u8 (n : Int)
theorem bytesV_snoc (l : List Nat) (n : Nat) : bytesV (l ++ [n]) = bytesV l ++ [.int .u8 (n : Int)] := by simp [bytesV]
theorem rdq_le (x : ByteArray) : (rdq x).2 ≤ x.size := by
  unfold rdq
  split
  · exact Nat.zero_le _
  · rename_i h; split
    · simp only; omega
    · split
      · exact Nat.zero_le _
      · rename_i h2; split
        · exact Nat.zero_le _
        · simp only; omega
theorem rdql_at (x : ByteArray) (k : Nat) : rdql (x.data.toList.drop k) = rdq (x.extract k x.size) := by
  unfold rdql; rw [← extract_post, ← ba_list]
theorem quo_end (f : Nat) (l : List UInt8) (k : Nat) (acc : List Nat) (h : l = []) : quo f l k acc = ⟨[], 0, 0, 13⟩ := by
  subst h; cases f <;> rfl
theorem extract_size (x : ByteArray) (k : Nat) : (x.extract k x.size).size = x.size - k := by simp
def fv (p c : Nat) : Value := .agg #[.int .i64 (p : Int), .int .i64 (c : Int)]
def quoV (v : Value) (q : Quo) : Value := .tuple #[v, .int .i64 (q.fin : Int), fv q.fat q.code]
theorem quoV_eq {q : Quo} {a b c : Nat} {bs : List Nat} (h : q = ⟨bs, a, b, c⟩) (v : Value) : Ending.returned (.tuple #[v, .int .i64 (a : Int), .agg #[.int .i64 (b : Int), .int .i64 (c : Int)]]) = .returned (quoV v q) := by rw [h]; rfl

attribute [local go_sem] setCell_drewN
theorem put2 {w wr : World} (h : Below w.heap.size w wr) {u v : Value} : Below w.heap.size w ((wr.setCell ⟨w.heap.size, 0, none⟩ u).setCell ⟨w.heap.size, 1, none⟩ v) :=
  (h.setCell (p := ⟨w.heap.size, 0, none⟩) (Nat.le_refl _) _).setCell (p := ⟨w.heap.size, 1, none⟩) (Nat.le_refl _) _
set_option maxRecDepth 100000 in
set_option maxHeartbeats 4000000 in
theorem readQ_any (x : ByteArray) (w : World) (hx : x.size ≤ 65536) :
    Calls Tryd.prog 96 #[.string x] w fun e w' => ∃ v, e = .returned (quoV v (quoted x.data.toList)) ∧ w'.ownsRow w.heap.size 5 1 v (quoted x.data.toList).bytes.length (bytesV (quoted x.data.toList).bytes) ∧ Below w.heap.size w w' := by
  obtain ⟨i0, hi, hz0, hz1, hz2⟩ := info_parts info5
  have B0 := Blk.new w 44 #[.int .i64 0, .int .i64 0]
  have hB0 : Below w.heap.size w (w.alloc (.cells #[.int .i64 0, .int .i64 0] 44)) := (Below.refl _ _).alloc (Nat.le_refl _) _
  have hq0 : quo x.size (x.data.toList.drop 1) 1 [] = quoted x.data.toList := by unfold quoted; rw [list_len]
  obtain ⟨q, hq⟩ : ∃ q, quoted x.data.toList = q := ⟨_, rfl⟩
  rw [hq] at hq0
  rw [hq]
  clear hq
  go_enter Tryd.func96, Tryd.ntmps96
  go_wp2
  go_loopw [5, 6] (fun v i wr => ∃ (k f : Nat) (acc : List Nat), k ≤ x.size + 1 ∧ 1 ≤ k ∧ acc.length ≤ k ∧ x.size ≤ k + f ∧ i = .int .i64 k ∧ quo f (x.data.toList.drop k) k acc = q ∧ wr.ownsRow (w.heap.size + 1) 5 1 v acc.length (bytesV acc) ∧ Blk wr w.heap.size 44 #[.int .i64 0, .int .i64 0] ∧ Below w.heap.size w wr) (fun _ i _ => x.size + 1 - (intOf i).toNat)
  case atStart => exact ⟨1, x.size, [], by omega, by omega, by simp, by omega, rfl, hq0, World.ownsRow_nil _ _ _ _, B0, hB0⟩
  case round =>
    obtain ⟨k, f, acc, hk, hk1, hac, hf, rfl, hqq, hrow, hbx, hB⟩ := hrel
    clear B0 hB0 hq0
    rename_i wr _
    have HQ : Hid _ := hqq
    clear hqq
    have e0 := hbx.cell 0 (v := .int .i64 0) rfl
    have e1 := hbx.cell 1 (v := .int .i64 0) rfl
    have g0 := hbx.frozen 0
    have g1 := hbx.frozen 1
    have hl := hbx.lt
    have hbase : w.heap.size + 1 ≤ wr.heap.size := hl
    by_cases hlt : k < x.size
    · have hlt' : (k : Int) < x.size := by omega
      have b0 := bt_eq x k hlt
      have hc := bt_lt x k
      have HD : Hid _ := drop_at x k hlt
      obtain ⟨f, rfl⟩ : ∃ f', f = f' + 1 := ⟨f - 1, by omega⟩
      rw [HD.out] at HQ
      simp only [quo, b0] at HQ
      by_cases h34 : bt x k = 34
      · rw [if_pos h34] at HQ
        rw [h34] at b0
        go_wp2
        refine bodyPost_ret (v := .tuple #[u5, .int .i64 ((k + 1 : Nat) : Int), .agg #[.int .i64 ((0 : Nat) : Int), .int .i64 ((0 : Nat) : Int)]]) (by simp [results, Tryd.results96, go_sem, e0, e1]) rfl ⟨_, quoV_eq HQ.out.symm _, ?_, put2 hB⟩
        rw [← HQ.out]; exact row_mono (row_put (row_put hrow (by omega) _) (by omega) _) (by omega)
      rw [if_neg h34] at HQ
      have h34b : ((bt x k : Int) == 34) = false := by simp; omega
      by_cases h92 : bt x k = 92
      · rw [if_pos h92] at HQ
        rw [h92] at b0
        rw [← HD.out, rdql_at] at HQ
        have HR : Hid _ := fun w => rdq_any (x.extract k x.size) w
        have hle := rdq_le (x.extract k x.size)
        rw [extract_size] at hle
        generalize rdq (x.extract k x.size) = r at *
        obtain ⟨e, n⟩ := r
        simp only at HQ HR hle
        by_cases hn : n = 0
        · subst hn
          rw [if_pos rfl] at HQ
          go_wp2_with (go_at_call 106; refine (HR.out _).mono ?_; rintro e w1 ⟨rfl, nq, rfl⟩)
          exact bodyPost_ret (v := .tuple #[.slice none 0 0, .int .i64 ((0 : Nat) : Int), .agg #[.int .i64 (k : Int), .int .i64 ((12 : Nat) : Int)]]) (by simp [results, Tryd.results96, go_sem, e0, e1]) rfl ⟨_, quoV_eq HQ.out.symm _, by rw [← HQ.out]; exact World.ownsRow_nil _ _ _ _, belDrew (put2 hB) nq⟩
        · rw [if_neg hn, List.drop_drop] at HQ
          have hnb : ((n : Int) == 0) = false := by simp; omega
          go_wp2_with (go_at_call 106; refine (HR.out _).mono ?_)
          rintro e1 w1 ⟨rfl, nq, rfl⟩
          replace hrow : (wr.drewN nq).ownsRow _ _ _ _ _ _ := hrow
          replace hbx : Blk (wr.drewN nq) _ _ _ := hbx
          replace hB := belDrew hB nq
          go_wp2_with (at_builtin; refine wpList_append_own _ rfl _ _ 22 rfl (w.heap.size + 1) 5 i0 (.int .u8 0) 1 1 Tryd.underlying22 hi hz0 hz1 hz2 rfl (by decide) _ _ _ rfl (hrow.alloc _) ⟨wr.heap.size, 0, none⟩ 1 1 [.int .u8 e] rfl rfl ?c1 ?c2 ?c3 ?c4 ?c5 ?_)
          case c1 => exact cell_one_new _ _ _
          case c2 => intro u hu; simp at hu; subst hu; rfl
          case c3 => unfold maxLen; omega
          case c4 => omega
          case c5 => simp; omega
          intro v' w2 hown' hgrow _
          have hbx2 := (hbx.alloc (.cells #[.int .u8 (e : Int)] 5)).kept hgrow (hbx.not_row (by decide) hrow)
          have hB2 := (hB.alloc hB.size (.cells #[.int .u8 (e : Int)] 5)).grown hgrow (by have := hB.size; simp; omega) (fun j hj => by have := (hrow.lt j hj).1; omega)
          obtain ⟨g', cap', rfl⟩ := ownsRow_succ hown'
          go_wp2
          exact ⟨⟨k + n, f, acc ++ [e], by omega, by omega, by simp; omega, by omega, by go_num, HQ.out, by rw [bytesV_snoc, List.length_append]; exact hown', hbx2, hB2⟩, by simp [intOf]; omega⟩
      · rw [if_neg h92] at HQ
        have h92b : ((bt x k : Int) == 92) = false := by simp; omega
        have HP : Hid _ := fun w => plainq_any (bt x k) w hc
        generalize bt x k = c at *
        cases hp : plainq c with
        | false =>
          rw [hp] at HP HQ
          rw [if_neg (by simp)] at HQ
          go_wp2_with (go_at_call 79; refine (HP.out _).mono ?_; rintro e w1 ⟨rfl, rfl⟩)
          exact bodyPost_ret (v := .tuple #[.slice none 0 0, .int .i64 ((0 : Nat) : Int), .agg #[.int .i64 (k : Int), .int .i64 ((11 : Nat) : Int)]]) (by simp [results, Tryd.results96, go_sem, e0, e1]) rfl ⟨_, quoV_eq HQ.out.symm _, by rw [← HQ.out]; exact World.ownsRow_nil _ _ _ _, put2 hB⟩
        | true =>
          rw [hp] at HP HQ
          rw [if_pos rfl] at HQ
          clear hp
          go_wp2_with (go_at_call 79; refine (HP.out _).mono ?_)
          rintro e1 w1 ⟨rfl, hw1⟩
          replace hw1 := hw1.symm
          subst hw1
          go_wp2_with (at_builtin; refine wpList_append_own _ rfl _ _ 22 rfl (w.heap.size + 1) 5 i0 (.int .u8 0) 1 1 Tryd.underlying22 hi hz0 hz1 hz2 rfl (by decide) _ _ _ rfl (hrow.alloc _) ⟨wr.heap.size, 0, none⟩ 1 1 [.int .u8 c] rfl rfl ?c1 ?c2 ?c3 ?c4 ?c5 ?_)
          case c1 => exact cell_one_new _ _ _
          case c2 => intro u hu; simp at hu; subst hu; rfl
          case c3 => unfold maxLen; omega
          case c4 => omega
          case c5 => simp; omega
          intro v' w2 hown' hgrow _
          have hbx2 := (hbx.alloc (.cells #[.int .u8 (c : Int)] 5)).kept hgrow (hbx.not_row (by decide) hrow)
          have hB2 := (hB.alloc hB.size (.cells #[.int .u8 (c : Int)] 5)).grown hgrow (by have := hB.size; simp; omega) (fun j hj => by have := (hrow.lt j hj).1; omega)
          obtain ⟨g', cap', rfl⟩ := ownsRow_succ hown'
          go_wp2
          exact ⟨⟨k + 1, f, acc ++ [c], by omega, by omega, by simp; omega, by omega, by go_num, HQ.out, by rw [bytesV_snoc, List.length_append]; exact hown', hbx2, hB2⟩, by simp [intOf]; omega⟩
    · rw [quo_end _ _ _ _ (drop_end x k (by omega))] at HQ
      have hlt' : ¬ (k : Int) < x.size := by omega
      go_wp2
      exact bodyPost_ret (v := .tuple #[.slice none 0 0, .int .i64 ((0 : Nat) : Int), .agg #[.int .i64 ((0 : Nat) : Int), .int .i64 ((13 : Nat) : Int)]]) (by simp [results, Tryd.results96, go_sem, e0, e1]) rfl ⟨_, quoV_eq HQ.out.symm _, by rw [← HQ.out]; exact World.ownsRow_nil _ _ _ _, put2 hB⟩


/-- What Unquote answers: the bytes, the fault's place and code. -/
def unq (l : List UInt8) : List Nat × Nat × Nat :=
  if 65536 < l.length then ([], 0, 2)
  else if ¬ (0 < l.length ∧ (l.getD 0 0).toNat = 34) then ([], 0, 13)
  else if (quoted l).code ≠ 0 then ([], (quoted l).fat, (quoted l).code)
  else if (quoted l).fin < l.length then ([], (quoted l).fin, 15)
  else ((quoted l).bytes, 0, 0)
theorem pre_q (x : ByteArray) : Lib.hasPrefix x.data.toList [34] = decide (0 < x.data.toList.length ∧ (x.data.toList.getD 0 0).toNat = 34) := by
  cases x.data.toList with
  | nil => simp [Lib.hasPrefix]
  | cons c l =>
    rw [Bool.eq_iff_iff]; simp [Lib.hasPrefix, ← UInt8.toNat_inj]
    exact eq_comm
theorem unqV_eq {q : List Nat × Nat × Nat} {b c : Nat} {bs : List Nat} (h : q = (bs, b, c)) (v : Value) : Ending.returned (.tuple #[v, .agg #[.int .i64 (b : Int), .int .i64 (c : Int)]]) = .returned (.tuple #[v, fv q.2.1 q.2.2]) := by rw [h]; rfl

set_option maxRecDepth 100000 in
set_option maxHeartbeats 4000000 in
theorem unquote_any (x : ByteArray) (w : World) :
    Calls Tryd.prog 84 #[.string x] w fun e w' => ∃ v, e = .returned (.tuple #[v, fv (unq x.data.toList).2.1 (unq x.data.toList).2.2]) ∧ w'.ownsRow w.heap.size 5 1 v (unq x.data.toList).1.length (bytesV (unq x.data.toList).1) ∧ Below w.heap.size w w' := by
  have B0 := Blk.new w 44 #[.int .i64 0, .int .i64 0]
  have hB0 : Below w.heap.size w (w.alloc (.cells #[.int .i64 0, .int .i64 0] 44)) := (Below.refl _ _).alloc (Nat.le_refl _) _
  obtain ⟨R, hR⟩ : ∃ R, unq x.data.toList = R := ⟨_, rfl⟩
  rw [hR]
  unfold unq at hR
  have HP : Hid (∀ w, Calls Tryd.prog 71 #[.string x, .string ⟨#[34]⟩] w fun e w' => e = .returned (.bool (decide (0 < x.data.toList.length ∧ (x.data.toList.getD 0 0).toNat = 34))) ∧ w' = w) := fun w => by
    have := hasPrefix_any x ⟨#[34]⟩ w
    rw [show (⟨#[34]⟩ : ByteArray).data.toList = [34] from rfl, pre_q] at this
    exact this
  by_cases h1 : 65536 < x.size
  · rw [if_pos (by rw [list_len]; exact h1)] at hR
    clear HP
    go_enter Tryd.func84, Tryd.ntmps84
    go_wp2
    exact bodyPost_ret (v := .tuple #[.slice none 0 0, .agg #[.int .i64 ((0 : Nat) : Int), .int .i64 ((2 : Nat) : Int)]]) (by simp [results, Tryd.results84, go_sem]) rfl ⟨_, unqV_eq hR.symm _, by rw [← hR]; exact World.ownsRow_nil _ _ _ _, (Below.refl _ _).alloc (Nat.le_refl _) _⟩
  rw [if_neg (by rw [list_len]; exact h1)] at hR
  by_cases h2 : 0 < x.data.toList.length ∧ (x.data.toList.getD 0 0).toNat = 34
  · rw [if_neg (by simpa using h2)] at hR
    rw [decide_eq_true h2] at HP
    have HQ : Hid _ := fun w => readQ_any x w (by omega)
    have h1' : (x.size : Int) ≤ 65536 := by omega
    rw [list_len] at hR
    generalize quoted x.data.toList = q at *
    obtain ⟨bs, fin, fat, code⟩ := q
    simp only [quoV, fv] at HQ hR
    clear h2
    go_enter Tryd.func84, Tryd.ntmps84
    go_wp2_with (first | (go_at_call 71; refine (HP.out _).mono ?_; rintro e w1 ⟨rfl, rfl⟩) | (go_at_call 96; refine (HQ.out _).mono ?_))
    rintro e w1 ⟨v, rfl, hrow, hb1⟩
    have B1 := B0.after hb1
    have hB1 := below_of hB0 hb1
    simp only [World.size_alloc] at hrow
    have hl := B1.lt
    have e0 := B1.cell 0 (v := .int .i64 0) rfl
    have e1 := B1.cell 1 (v := .int .i64 0) rfl
    have g0 := B1.frozen 0
    have g1 := B1.frozen 1
    clear HQ B0 hB0 hb1
    by_cases h3 : code = 0
    · subst h3
      rw [if_neg (by simp)] at hR
      by_cases h4 : fin < x.size
      · rw [if_pos h4] at hR
        have h4' : (fin : Int) < x.size := by omega
        go_wp2
        exact bodyPost_ret (v := .tuple #[.slice none 0 0, .agg #[.int .i64 (fin : Int), .int .i64 ((15 : Nat) : Int)]]) (by simp [results, Tryd.results84, go_sem, e0, e1, hl]) rfl ⟨_, unqV_eq hR.symm _, by rw [← hR]; exact World.ownsRow_nil _ _ _ _, (put2 hB1).alloc (by simp; omega) _⟩
      · rw [if_neg h4] at hR
        have h4' : ¬ (fin : Int) < x.size := by omega
        go_wp2
        exact bodyPost_ret (v := .tuple #[v, .agg #[.int .i64 ((0 : Nat) : Int), .int .i64 ((0 : Nat) : Int)]]) (by simp [results, Tryd.results84, go_sem, e0, e1, hl]) rfl ⟨_, unqV_eq hR.symm _, by rw [← hR]; exact row_mono ((row_put (row_put hrow (by omega) _) (by omega) _).alloc _) (by omega), (put2 hB1).alloc (by simp; omega) _⟩
    · rw [if_pos h3] at hR
      have h3' : ((code : Int) != 0) = true := by simp; omega
      go_wp2
      go_region
      all_goals go_wp2
      exact bodyPost_ret (v := .tuple #[.slice none 0 0, .agg #[.int .i64 (fat : Int), .int .i64 (code : Int)]]) (by simp [results, Tryd.results84, go_sem, e0, e1, hl]) rfl ⟨_, unqV_eq hR.symm _, by rw [← hR]; exact World.ownsRow_nil _ _ _ _, ((put2 hB1).alloc (by simp; omega) _).drew⟩
  · rw [if_pos (by simpa using h2)] at hR
    rw [decide_eq_false h2] at HP
    have h1' : (x.size : Int) ≤ 65536 := by omega
    go_enter Tryd.func84, Tryd.ntmps84
    go_wp2_with (go_at_call 71; refine (HP.out _).mono ?_; rintro e w1 ⟨rfl, rfl⟩)
    exact bodyPost_ret (v := .tuple #[.slice none 0 0, .agg #[.int .i64 ((0 : Nat) : Int), .int .i64 ((13 : Nat) : Int)]]) (by simp [results, Tryd.results84, go_sem]) rfl ⟨_, unqV_eq hR.symm _, by rw [← hR]; exact World.ownsRow_nil _ _ _ _, (Below.refl _ _).alloc (Nat.le_refl _) _⟩
end Go.Proofs.YtlkcadibjmfmcaaDoor
