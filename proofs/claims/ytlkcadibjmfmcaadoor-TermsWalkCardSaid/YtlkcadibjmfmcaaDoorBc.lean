/- How long a part's own signs are: ownSize. -/
import Derived.Test.YtlkcadibjmfmcaaDoorBb
namespace Go.Proofs.YtlkcadibjmfmcaaDoor
open Go.RowKit

/-- The bytes of a text as numbers. -/
def nums (t : List UInt8) : List Nat := t.map UInt8.toNat
theorem nums_len (t : List UInt8) : (nums t).length = t.length := by simp [nums]
theorem nums_lt (t : List UInt8) : ∀ n ∈ nums t, n < 256 := fun n hn => by
  obtain ⟨c, _, rfl⟩ := List.mem_map.1 hn
  exact UInt8.toNat_lt _
theorem bat_row {w : World} {B : Nat} {ta : Option Addr} {t : List UInt8} (h : BAt w B ta t) (hB : B ≤ w.heap.size) : Row w ta (nums t) := fun i hi => by
  rw [nums_len] at hi
  obtain ⟨b, o, e, hlt, hc⟩ := h i t[i] (by simp)
  refine ⟨b, o, e, by omega, ?_⟩
  rw [hc]; simp [nums, List.getD_eq_getElem?_getD, hi]
/-- How long a text in quotes is. -/
def qlen (t : List UInt8) : Nat := (quoteL (nums t)).length
/-- A part's own signs. -/
def ownS (d : Tm) : Nat :=
  if d.kind = 2 then (if 65536 < d.text.length then d.text.length else qlen d.text)
  else if d.kind = 3 then 2 + (d.kids.length - 1)
  else if d.kind = 1 then (if 0 < d.kids.length then d.cons.size + 2 + (d.kids.length - 1) else d.cons.size)
  else 1
theorem str_size (l : List UInt8) : (⟨l.toArray⟩ : ByteArray).size = l.length := by show l.toArray.size = _; simp
set_option maxRecDepth 100000 in
set_option maxHeartbeats 4000000 in
theorem ownSize_any (d : Tm) (B f b o : Nat) (w : World) (hB : B ≤ w.heap.size) (hd : TermAt w B f b o d) (hc : d.cons.size ≤ 1000000000000) :
    Calls Tryd.prog 62 #[.pointer (some ⟨b, o, none⟩)] w fun e w' => e = .returned (.int .i64 (ownS d)) ∧ Below w.heap.size w w' := by
  obtain ⟨hlt, sa, sc, c0, c1, ⟨ta, tc, c2, _, _, hta⟩, c3, _, hkk⟩ := hd
  have hkl := hkk.len
  have HQ : Hid (d.text.length ≤ 65536 → ∀ w', w' = w → Calls Tryd.prog 63 #[.slice ta d.text.length tc] w' fun e w'' => e = .returned (.string ⟨(quoteL (nums d.text)).toArray⟩) ∧ Below w.heap.size w w'') := fun h w' e => by
    subst e
    have := quote_any (nums d.text) ta tc w' (nums_lt _) (by rw [nums_len]; exact h) (bat_row hta hB)
    rw [nums_len] at this; exact this
  have HL : Hid ((⟨(quoteL (nums d.text)).toArray⟩ : ByteArray).size = qlen d.text) := str_size _
  unfold ownS
  clear hta hkk
  generalize d.kind = kd at *
  generalize d.cons = cn at *
  generalize qlen d.text = ql at *
  generalize (⟨(quoteL (nums d.text)).toArray⟩ : ByteArray) = qs at *
  generalize d.text.length = tl at *
  generalize d.kids.length = kl at *
  have hmx : (max ((kl : Int) - 1) 0) = ((kl - 1 : Nat) : Int) := by omega
  by_cases h1 : kd = 1
  · subst h1
    by_cases hk : 0 < kl
    · have hk' : (0 : Int) < (kl : Int) := by omega
      go_enter Tryd.func62, Tryd.ntmps62
      go_wp2
      go_ret
      exact ⟨ret_int (by first | (simp; done) | (simp; omega) | go_num), Below.refl _ _⟩
    · have hk' : ¬ (0 : Int) < (kl : Int) := by omega
      go_enter Tryd.func62, Tryd.ntmps62
      go_wp2
      go_ret
      exact ⟨ret_int (by first | rfl | (simp; done)), Below.refl _ _⟩
  have g1 : (kd == 1) = false := by simpa using h1
  by_cases h2 : kd = 2
  · subst h2
    by_cases ht : 65536 < tl
    · have ht' : (65536 : Int) < (tl : Int) := by omega
      go_enter Tryd.func62, Tryd.ntmps62
      go_wp2
      go_ret
      exact ⟨ret_int (by first | rfl | (simp; done) | (simp [ht]; done)), Below.refl _ _⟩
    · have ht' : ¬ (65536 : Int) < (tl : Int) := by omega
      have HQ' : Hid _ := HQ.out (by omega) w rfl
      have HR : Hid ((if (2 : Int) = 2 then (if 65536 < tl then tl else ql) else if (2 : Int) = 3 then 2 + (kl - 1) else if (2 : Int) = 1 then (if 0 < kl then cn.size + 2 + (kl - 1) else cn.size) else 1) = qs.size) := by show _ = _; rw [HL.out]; simp [ht]
      rw [HR.out]
      have HC : Hid _ := fun (_ : Unit) => HQ.out (by omega) w rfl
      clear HQ HQ' HL HR
      go_enter Tryd.func62, Tryd.ntmps62
      go_wp2_with (go_at_call 63; refine (HC.out ()).mono ?_; rintro e w' ⟨rfl, hb⟩)
      go_ret
      exact ⟨rfl, hb⟩
  have g2 : (kd == 2) = false := by simpa using h2
  by_cases h3 : kd = 3
  · subst h3
    go_enter Tryd.func62, Tryd.ntmps62
    go_wp2
    go_ret
    exact ⟨ret_int (by first | (simp; done) | (simp; omega) | go_num), Below.refl _ _⟩
  have g3 : (kd == 3) = false := by simpa using h3
  go_enter Tryd.func62, Tryd.ntmps62
  go_wp2
  go_ret
  exact ⟨ret_int (by first | rfl | (simp; done) | (simp [h1, h2, h3]; done)), Below.refl _ _⟩
end Go.Proofs.YtlkcadibjmfmcaaDoor
