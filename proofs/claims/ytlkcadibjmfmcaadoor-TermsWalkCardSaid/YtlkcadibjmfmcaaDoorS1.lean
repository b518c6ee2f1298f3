/- How great and how deep a term is, plain; terms.Size, and the document's own. -/
import Derived.Test.YtlkcadibjmfmcaaDoorS0
namespace Go.Proofs.YtlkcadibjmfmcaaDoor
open Go.RowKit

mutual
/-- How many parts a term has. -/
def sz : Tm → Nat | .mk _ _ _ l => 1 + szL l
def szL : List Tm → Nat | [] => 0 | d :: l => sz d + szL l
end
mutual
/-- How deep a term is. -/
def dp : Tm → Nat | .mk _ _ _ l => 1 + dpL l
def dpL : List Tm → Nat | [] => 0 | d :: l => max (dp d) (dpL l)
end
theorem sz_eq (d : Tm) : sz d = 1 + szL d.kids := by cases d; rw [sz]; rfl
theorem dp_eq (d : Tm) : dp d = 1 + dpL d.kids := by cases d; rw [dp]; rfl
mutual
theorem pre_len : ∀ (d : Tm) (m : Nat), (pre d m).length = sz d
  | .mk k c t l, m => by rw [pre, sz, List.length_cons, preL_len l (m + 1)]; omega
theorem preL_len : ∀ (l : List Tm) (m : Nat), (preL l m).length = szL l
  | [], m => by simp [preL, szL]
  | d :: l, m => by rw [preL, szL, List.length_append, pre_len d m, preL_len l m]
end
mutual
theorem pre_mx : ∀ (d : Tm) (m a : Nat), 1 ≤ m → (pre d m).foldl (fun k p => max k p.2) a = max a (m - 1 + dp d)
  | .mk k c t l, m, a, h => by
    rw [pre, dp, List.foldl_cons, preL_mx l (m + 1) (max a m) (by omega) (by omega)]; omega
theorem preL_mx : ∀ (l : List Tm) (m a : Nat), 1 ≤ m → m - 1 ≤ a → (preL l m).foldl (fun k p => max k p.2) a = max a (m - 1 + dpL l)
  | [], m, a, h, h2 => by simp [preL, dpL]; omega
  | d :: l, m, a, h, h2 => by rw [preL, dpL, List.foldl_append, pre_mx d m a h, preL_mx l m _ h (by omega)]; omega
end
theorem mx_pre (d : Tm) : mx (pre d 1) = dp d := by
  have h := pre_mx d 1 0 (Nat.le_refl 1)
  unfold mx; rw [h]; omega
mutual
theorem dp_le : ∀ d : Tm, dp d ≤ sz d
  | .mk k c t l => by rw [dp, sz]; have := dpL_le l; omega
theorem dpL_le : ∀ l : List Tm, dpL l ≤ szL l
  | [] => by simp [dpL]
  | d :: l => by rw [dpL, szL]; have := dp_le d; have := dpL_le l; omega
end
theorem szL_take {l : List Tm} {k : Nat} {d : Tm} (h : l[k]? = some d) : szL (l.take (k + 1)) = szL (l.take k) + sz d := by
  induction l generalizing k with
  | nil => cases h
  | cons x l ih =>
    cases k with
    | zero => simp at h; subst h; simp [szL]
    | succ k =>
      simp at h
      rw [List.take_succ_cons, List.take_succ_cons, szL, szL, ih h, Nat.add_assoc]
theorem dpL_take {l : List Tm} {k : Nat} {d : Tm} (h : l[k]? = some d) : dpL (l.take (k + 1)) = max (dpL (l.take k)) (dp d) := by
  induction l generalizing k with
  | nil => cases h
  | cons x l ih =>
    cases k with
    | zero => simp at h; subst h; simp [dpL]
    | succ k =>
      simp at h
      rw [List.take_succ_cons, List.take_succ_cons, dpL, dpL, ih h]; omega
theorem szL_take_le (l : List Tm) (k : Nat) : szL (l.take k) ≤ szL l := by
  induction l generalizing k with
  | nil => simp
  | cons x l ih =>
    cases k with
    | zero => simp [szL]
    | succ k => rw [List.take_succ_cons, szL, szL]; have := ih k; omega
set_option maxRecDepth 100000 in
set_option maxHeartbeats 1000000 in
theorem size_any (d : Tm) (tv : Value) (sa : Option Addr) (sc f : Nat) (w : World) (htv : Txt w w.heap.size tv d.text) (hk : MAt w w.heap.size f sa d.kids) (hsc : d.kids.length ≤ sc) (hlen : sz d ≤ 1000000000000) :
    Calls Tryd.prog 15 #[.agg #[.int .i64 d.kind, .string d.cons, tv, .slice sa d.kids.length sc]] w fun e w' => e = .returned (.tuple #[.int .i64 (sz d : Int), .int .i64 (dp d : Int)]) ∧ Below w.heap.size w w' := by
  obtain ⟨w1, hw1⟩ : ∃ w1, w.alloc (.cells #[.int .i64 d.kind, .string d.cons, tv, .slice sa d.kids.length sc] 25) = w1 := ⟨_, rfl⟩
  have hB1 : Below w.heap.size w w1 := by rw [← hw1]; exact (Below.refl _ _).alloc (Nat.le_refl _) _
  have a0 : w1.cell? ⟨w.heap.size, 0, none⟩ = some (.int .i64 d.kind) := by rw [← hw1]; exact cell_new 0 rfl
  have a1 : w1.cell? ⟨w.heap.size, 1, none⟩ = some (.string d.cons) := by rw [← hw1]; exact cell_new 1 rfl
  have a3 : w1.cell? ⟨w.heap.size, 2, none⟩ = some tv := by rw [← hw1]; exact cell_new 2 rfl
  have a2 : w1.cell? ⟨w.heap.size, 3, none⟩ = some (.slice sa d.kids.length sc) := by rw [← hw1]; exact cell_new 3 rfl
  have h := kinSize_any d tv sa sc f w1 ((htv.keep hB1).mono hB1.size) ((hk.keep hB1).mono hB1.size) hsc (by rw [pre_len]; exact hlen)
  rw [pre_len, mx_pre] at h
  have HC : Hid _ := fun (_ : Unit) => h
  have HB : Hid _ := hB1
  clear h hk hB1 htv
  go_enter Tryd.func15, Tryd.ntmps15
  go_wp2_with (go_at_call 35; refine (HC.out ()).mono ?_; rintro e w' ⟨rfl, hb⟩)
  refine bodyPost_ret (results_tmp2 rfl _ _ _) rfl ?_
  exact ⟨rfl, HB.out.trans (hb.mono HB.out.size)⟩
set_option maxRecDepth 100000 in
set_option maxHeartbeats 4000000 in
theorem refSize_any (f : Nat) : ∀ (N : Nat) (d : Tm) (tv : Value) (sa : Option Addr) (sc : Nat) (w : World), sz d ≤ N → MAt w w.heap.size f sa d.kids → sz d ≤ 1000000000000 →
    Calls Tryd.prog 16 #[.agg #[.int .i64 d.kind, .string d.cons, tv, .slice sa d.kids.length sc]] w fun e w' => e = .returned (.tuple #[.int .i64 (sz d : Int), .int .i64 (dp d : Int)]) ∧ Below w.heap.size w w' := by
  intro N
  induction N with
  | zero => intro d tv sa sc w hN; rw [sz_eq] at hN; omega
  | succ N ih =>
  intro d tv sa sc w hN hk hlim
  have hlen := hk.len
  have hsz := sz_eq d
  have hdp := dp_eq d
  obtain ⟨w1, hw1⟩ : ∃ w1, w.alloc (.cells #[.int .i64 d.kind, .string d.cons, tv, .slice sa d.kids.length sc] 25) = w1 := ⟨_, rfl⟩
  have hB1 : Below w.heap.size w w1 := by rw [← hw1]; exact (Below.refl _ _).alloc (Nat.le_refl _) _
  have s1 : w1.heap.size = w.heap.size + 1 := by rw [← hw1]; simp
  have a2 : w1.cell? ⟨w.heap.size, 3, none⟩ = some (.slice sa d.kids.length sc) := by rw [← hw1]; exact cell_new 3 rfl
  have HZ : Hid _ := hsz
  have HD : Hid _ := hdp
  have HI : Hid _ := ih
  have HK : Hid _ := hk
  have HN : Hid _ := hN
  have HL : Hid _ := hlim
  have HB1 : Hid _ := hB1
  have HS1 : Hid _ := s1
  clear hsz hdp ih hk hN hlim hB1 s1
  go_enter Tryd.func16, Tryd.ntmps16
  go_wp2
  go_loopw [4, 5, 6] (fun n m i W => ∃ k : Nat, k ≤ d.kids.length ∧ i = .int .i64 k ∧ n = .int .i64 ((1 + szL (d.kids.take k) : Nat) : Int) ∧ m = .int .i64 ((1 + dpL (d.kids.take k) : Nat) : Int) ∧ Below w1.heap.size w1 W) (fun _ _ i _ => d.kids.length - (intOf i).toNat)
  case atStart => exact ⟨0, by omega, rfl, by simp [szL], by simp [dpL], Below.refl _ _⟩
  case round =>
    obtain ⟨k, hk, rfl, rfl, rfl, hB⟩ := hrel
    have hs1 := HS1.out
    have b2 := (hB.cell (p := ⟨w.heap.size, 3, none⟩) (by show w.heap.size < _; omega)).trans a2
    have HBw : Hid (Below w.heap.size w wr) := HB1.out.trans (hB.mono (by omega))
    have HB : Hid _ := hB
    clear hB hs1
    by_cases hlt : k < d.kids.length
    · obtain ⟨x, hx⟩ : ∃ x, d.kids[k]? = some x := ⟨d.kids[k], by simp [hlt]⟩
      obtain ⟨b, o, hsa, hb, xa, xc, c0, c1, ⟨ta, tc, c2, _⟩, c3, hxc, hxk⟩ := ((HK.out.keep HBw.out).mono HBw.out.size).one hx
      have hzx := szL_take hx
      have hdx := dpL_take hx
      have hle := szL_take_le d.kids (k + 1)
      have hdl := dp_le x
      have hdk := dpL_le (d.kids.take k)
      have hxl : sz x ≤ 1000000000000 := by have := HL.out; have := HZ.out; omega
      have hkl : szL (d.kids.take k) + sz x ≤ 1000000000000 := by have := HL.out; have := HZ.out; omega
      have HC : Hid _ := fun (_ : Unit) => HI.out x (.slice ta x.text.length tc) xa xc wr (by have := HN.out; have := HZ.out; omega) hxk hxl
      have HX : Hid _ := hzx
      have HY : Hid _ := hdx
      subst hsa
      clear hzx hdx hle hx hxk
      obtain ⟨u, hu⟩ : ∃ u, szL (d.kids.take k) = u := ⟨_, rfl⟩
      obtain ⟨v, hv⟩ : ∃ v, dpL (d.kids.take k) = v := ⟨_, rfl⟩
      rw [hu] at hdk hkl HX
      rw [hv] at hdk HY
      rw [hu, hv]
      clear hu hv
      go_wp2_with (go_at_call 16; refine (HC.out ()).mono ?_; rintro e w2 ⟨rfl, hb2⟩)
      all_goals (
        refine ⟨⟨k + 1, by omega, by go_num, ?_, ?_, HB.out.trans (hb2.mono HB.out.size)⟩, by simp [intOf]; omega⟩
        · rw [HX.out]; go_num
        · rw [HY.out]; go_num)
    · obtain rfl : k = d.kids.length := by omega
      go_wp2
      refine bodyPost_ret (results_tmp2 rfl _ _ _) rfl ?_
      refine ⟨?_, HBw.out⟩
      rw [List.take_length, ← HZ.out, ← HD.out]; rfl
end Go.Proofs.YtlkcadibjmfmcaaDoor
