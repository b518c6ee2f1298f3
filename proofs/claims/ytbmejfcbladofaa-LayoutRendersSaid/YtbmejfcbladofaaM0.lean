/- Which documents are right: the document's own answer. -/
import Derived.Test.YtbmejfcbladofaaK1
namespace Go.Proofs.Ytbmejfcbladofaa
open Go.RowKit

mutual
def cnt : Dc → Nat | .mk _ _ _ l => 1 + cntL l
def cntL : List Dc → Nat | [] => 0 | d :: l => cnt d + cntL l
end
mutual
def dep : Dc → Nat | .mk _ _ _ l => 1 + depL l
def depL : List Dc → Nat | [] => 0 | d :: l => max (dep d) (depL l)
end
mutual
def wellD : Dc → Bool | .mk k t n l => okC k t n l.length && wellL l
def wellL : List Dc → Bool | [] => true | d :: l => wellD d && wellL l
end
theorem cnt_eq (d : Dc) : cnt d = 1 + cntL d.kids := by cases d; rw [cnt]; rfl
theorem dep_eq (d : Dc) : dep d = 1 + depL d.kids := by cases d; rw [dep]; rfl
theorem wellD_eq (d : Dc) : wellD d = (okC d.kind d.text d.n d.kids.length && wellL d.kids) := by cases d; rw [wellD]; rfl
theorem cntL_take {l : List Dc} {k : Nat} {d : Dc} (h : l[k]? = some d) : cntL (l.take (k + 1)) = cntL (l.take k) + cnt d := by
  induction l generalizing k with
  | nil => cases h
  | cons x l ih =>
    cases k with
    | zero => simp at h; subst h; simp [cntL]
    | succ k => simp at h; rw [List.take_succ_cons, List.take_succ_cons, cntL, cntL, ih h, Nat.add_assoc]
theorem depL_take {l : List Dc} {k : Nat} {d : Dc} (h : l[k]? = some d) : depL (l.take (k + 1)) = max (depL (l.take k)) (dep d) := by
  induction l generalizing k with
  | nil => cases h
  | cons x l ih =>
    cases k with
    | zero => simp at h; subst h; simp [depL]
    | succ k => simp at h; rw [List.take_succ_cons, List.take_succ_cons, depL, depL, ih h]; omega
theorem wellL_take {l : List Dc} {k : Nat} {d : Dc} (h : l[k]? = some d) : wellL (l.take (k + 1)) = (wellL (l.take k) && wellD d) := by
  induction l generalizing k with
  | nil => cases h
  | cons x l ih =>
    cases k with
    | zero => simp at h; subst h; simp [wellL]
    | succ k => simp at h; rw [List.take_succ_cons, List.take_succ_cons, wellL, wellL, ih h, Bool.and_assoc]
theorem wellL_mem {l : List Dc} {d : Dc} (h : d ∈ l) (hd : wellD d = false) : wellL l = false := by
  induction l with
  | nil => cases h
  | cons x l ih =>
    rw [wellL]
    rcases List.mem_cons.1 h with rfl | h
    · rw [hd]; rfl
    · rw [ih h, Bool.and_false]
mutual
theorem cnt_wt : ∀ (d : Dc), cnt d ≤ wt d ∧ dep d ≤ wt d
  | .mk k t n l => by
    have := cntL_wt l
    rw [cnt, dep, wt]; omega
theorem cntL_wt : ∀ (l : List Dc), cntL l ≤ wtL l ∧ depL l ≤ wtL l
  | [] => by simp [cntL, depL]
  | d :: l => by
    have h1 := cnt_wt d
    have h2 := cntL_wt l
    rw [cntL, depL, wtL]; omega
end
theorem cntL_take_le (l : List Dc) (k : Nat) : cntL (l.take k) ≤ wtL l ∧ depL (l.take k) ≤ wtL l := by
  have h1 := cntL_wt (l.take k)
  have h2 := wtL_take_le l k
  omega
mutual
theorem pre_cnt : ∀ (d : Dc) (m : Nat), (pre d m).length = cnt d
  | .mk k t n l, m => by rw [pre, cnt, List.length_cons, preL_cnt l (m + 1)]; omega
theorem preL_cnt : ∀ (l : List Dc) (m : Nat), (preL l m).length = cntL l
  | [], _ => by simp [preL, cntL]
  | d :: l, m => by rw [preL, cntL, List.length_append, pre_cnt d m, preL_cnt l m]
end
mutual
theorem pre_well : ∀ (d : Dc) (m : Nat), (∀ p ∈ pre d m, okP p = true) ↔ (wellD d = true ∧ dep d + m ≤ 201)
  | .mk k t n l, m => by
    have h := preL_well l (m + 1)
    rw [pre, wellD, dep]
    have e : okP (Dc.mk k t n l, m) = (decide (m ≤ 200) && okC k t n l.length) := rfl
    constructor
    · intro hp
      have h0 := hp _ List.mem_cons_self
      rw [e, Bool.and_eq_true, decide_eq_true_eq] at h0
      have h1 := h.1 (fun p hp' => hp p (List.mem_cons_of_mem _ hp'))
      rw [Bool.and_eq_true]
      exact ⟨⟨h0.2, h1.1⟩, by rcases h1.2 with h2 | h2 <;> omega⟩
    · rintro ⟨h1, h2⟩ p hp
      rw [Bool.and_eq_true] at h1
      rcases List.mem_cons.1 hp with rfl | hp
      · rw [e, Bool.and_eq_true, decide_eq_true_eq]
        exact ⟨by omega, h1.1⟩
      · exact h.2 ⟨h1.2, by omega⟩ p hp
theorem preL_well : ∀ (l : List Dc) (m : Nat), (∀ p ∈ preL l m, okP p = true) ↔ (wellL l = true ∧ (depL l = 0 ∨ depL l + m ≤ 201))
  | [], m => by simp [preL, wellL, depL]
  | d :: l, m => by
    have h1 := pre_well d m
    have h2 := preL_well l m
    have hd : 1 ≤ dep d := by rw [dep_eq]; omega
    rw [preL, wellL, depL, Bool.and_eq_true]
    constructor
    · intro hp
      have a := h1.1 (fun p h => hp p (List.mem_append_left _ h))
      have b := h2.1 (fun p h => hp p (List.mem_append_right _ h))
      refine ⟨⟨a.1, b.1⟩, .inr ?_⟩
      rcases b.2 with b | b <;> omega
    · rintro ⟨⟨a, b⟩, c⟩ p hp
      have c' : max (dep d) (depL l) + m ≤ 201 := by rcases c with c | c <;> omega
      rcases List.mem_append.1 hp with hp | hp
      · exact h1.2 ⟨a, by omega⟩ p hp
      · exact h2.2 ⟨b, by omega⟩ p hp
end
theorem right_eq (d : Dc) : rightD d = (decide (cnt d ≤ 20000) && decide (dep d ≤ 200) && wellD d) := by
  unfold rightD
  rw [pre_cnt]
  have h := pre_well d 1
  rw [Bool.and_assoc]
  congr 1
  rw [Bool.eq_iff_iff, List.all_eq_true, h, Bool.and_eq_true, decide_eq_true_eq]
  constructor
  · rintro ⟨a, b⟩; exact ⟨by omega, a⟩
  · rintro ⟨a, b⟩; exact ⟨b, by omega⟩
theorem noTen_yes {s : ByteArray} (h : (10 : UInt8) ∉ s.data.toList) : noTen s = true := by
  unfold noTen
  rw [decide_eq_true_eq]
  rcases Int.lt_or_le (Lib.indexByte s.data.toList 10) 0 with h' | h'
  · exact h'
  · obtain ⟨o, ho⟩ := Int.eq_ofNat_of_zero_le h'
    have := (Lib.indexByte_some ho).1
    exact absurd (List.mem_of_getElem? this) h
theorem okC_ten {k : Int} {t : ByteArray} {n : Int} {kl : Nat} (h : okC k t n kl = true) : (10 : UInt8) ∉ t.data.toList := by
  have he : t.toList.isEmpty = true → (10 : UInt8) ∉ t.data.toList := fun h => by
    rw [← ByteArray.toList_eq]
    rw [List.isEmpty_iff] at h
    rw [h]; simp
  unfold okC at h
  split at h
  · rw [Bool.and_eq_true] at h; exact noTen_no h.2
  split at h
  · rw [Bool.and_eq_true] at h; exact he h.2
  split at h
  · rw [Bool.and_eq_true] at h; exact he h.2
  split at h
  · rw [Bool.and_eq_true] at h; exact he h.2
  · cases h
set_option maxRecDepth 100000 in
set_option maxHeartbeats 4000000 in
theorem count_any (f : Nat) : ∀ (N : Nat) (d : Dc) (sa : Option Addr) (sc : Nat) (w : World), wt d ≤ N → DAt w w.heap.size f sa d.kids → wt d ≤ 700 →
    Calls Try.prog 36 #[.agg #[.int .i64 d.kind, .string d.text, .int .i64 d.n, .slice sa d.kids.length sc]] w fun e w' => e = .returned (.tuple #[.int .i64 (cnt d : Int), .int .i64 (dep d : Int)]) ∧ Below w.heap.size w w' := by
  intro N
  induction N with
  | zero => intro d sa sc w hN; rw [wt_eq] at hN; omega
  | succ N ih =>
  intro d sa sc w hN hk h700
  have hlen := hk.len
  have hwt := wt_eq d
  have HC : Hid (cnt d = 1 + cntL d.kids ∧ dep d = 1 + depL d.kids) := ⟨cnt_eq d, dep_eq d⟩
  obtain ⟨w1, hw1⟩ : ∃ w1, w.alloc (.cells #[.int .i64 d.kind, .string d.text, .int .i64 d.n, .slice sa d.kids.length sc] 24) = w1 := ⟨_, rfl⟩
  have hB1 : Below w.heap.size w w1 := by rw [← hw1]; exact (Below.refl _ _).alloc (Nat.le_refl _) _
  have s1 : w1.heap.size = w.heap.size + 1 := by rw [← hw1]; simp
  have a3 : w1.cell? ⟨w.heap.size, 3, none⟩ = some (.slice sa d.kids.length sc) := by rw [← hw1]; exact cell_new 3 rfl
  have HL7 : Hid (wtL d.kids + 1 ≤ 700) := by show _ ≤ _; omega
  have HIX : Hid (∀ x ∈ d.kids, wt x ≤ N ∧ wt x ≤ 700) := fun x hx => by
    obtain ⟨k, hk, rfl⟩ := List.getElem_of_mem hx
    have h1 := wtL_take (List.getElem?_eq_getElem hk)
    have h2 := wtL_take_le d.kids (k + 1)
    omega
  have HI : Hid _ := ih
  have HK : Hid _ := hk
  have HB1 : Hid _ := hB1
  have HS1 : Hid _ := s1
  clear hwt ih hk hN hB1 s1 h700
  go_enter Try.func36, Try.ntmps36
  go_wp2
  go_loopw [4, 5, 6, 7, 8] (fun n dv iv _ _ W => ∃ (k a b : Nat), k ≤ d.kids.length ∧ iv = .int .i64 k ∧ a = 1 + cntL (d.kids.take k) ∧ b = 1 + depL (d.kids.take k) ∧ a ≤ 700 ∧ b ≤ 700 ∧ n = .int .i64 a ∧ dv = .int .i64 b ∧ Below w1.heap.size w1 W) (fun _ _ iv _ _ _ => d.kids.length - (intOf iv).toNat)
  case atStart => exact ⟨0, 1, 1, by omega, rfl, rfl, rfl, by omega, by omega, rfl, rfl, Below.refl _ _⟩
  case round =>
    obtain ⟨k, a, b, hk, rfl, ha, hb, ha7, hb7, rfl, rfl, hB⟩ := hrel
    have hs1 := HS1.out
    have b3 := (hB.cell (p := ⟨w.heap.size, 3, none⟩) (by show w.heap.size < _; omega)).trans a3
    have hBw : Below w.heap.size w wr := HB1.out.trans (hB.mono (by omega))
    have HBw : Hid _ := hBw
    have HA : Hid _ := ha
    have HBB : Hid _ := hb
    have HB : Hid _ := hB
    clear hBw ha hb hB hs1
    by_cases hlt : k < d.kids.length
    · obtain ⟨x, hx⟩ : ∃ x, d.kids[k]? = some x := ⟨d.kids[k], by simp [hlt]⟩
      have hxm : x ∈ d.kids := List.mem_of_getElem? hx
      obtain ⟨bb, o, hsa, hb, xa, xc, c0, c1, c2, c3, hxc, hxk⟩ := ((HK.out.keep HBw.out).mono HBw.out.size).one hx
      have HCX : Hid _ := fun (_ : Unit) => HI.out x xa xc wr (HIX.out x hxm).1 hxk (HIX.out x hxm).2
      have hca : a + cnt x = 1 + cntL (d.kids.take (k + 1)) := by rw [cntL_take hx, HA.out]; omega
      have hcb : 1 + depL (d.kids.take (k + 1)) = max b (1 + dep x) := by rw [depL_take hx, HBB.out]; omega
      have hbd := cntL_take_le d.kids (k + 1)
      have hl7 := HL7.out
      have hbound : a + cnt x ≤ 700 ∧ 1 + dep x ≤ 700 := by omega
      have HCA : Hid _ := hca
      have HCB : Hid _ := hcb
      subst hsa
      clear hca hcb hbd hl7 hx hxm hxk
      obtain ⟨cx, hcx⟩ : ∃ q, cnt x = q := ⟨_, rfl⟩
      obtain ⟨dx, hdx⟩ : ∃ q, dep x = q := ⟨_, rfl⟩
      rw [hcx] at HCX HCA hbound
      rw [hdx] at HCX HCB hbound
      obtain ⟨hb1, hb2⟩ := hbound
      clear hcx hdx
      by_cases hge : b ≤ dx
      · have HE : Hid (dx + 1 = 1 + depL (d.kids.take (k + 1))) := by show _ = _; rw [HCB.out]; omega
        have hgeI : (b : Int) ≤ dx := by omega
        clear HCB
        go_wp2_with (go_at_call 36; refine (HCX.out ()).mono ?_)
        rintro e w2 ⟨rfl, hb2⟩
        have HB2 : Hid (Below w1.heap.size w1 w2) := HB.out.trans (hb2.mono HB.out.size)
        clear hb2
        go_wp2
        go_roundw
        case rel => exact ⟨k + 1, a + cx, dx + 1, by omega, by go_num, HCA.out, HE.out, by omega, by omega, by go_num, by go_num, HB2.out⟩
        case measure => simp [intOf]; omega
      · have HE : Hid (b = 1 + depL (d.kids.take (k + 1))) := by show _ = _; rw [HCB.out]; omega
        have hgeI : (dx : Int) < b := by omega
        clear HCB hge
        go_wp2_with (go_at_call 36; refine (HCX.out ()).mono ?_)
        rintro e w2 ⟨rfl, hb2⟩
        have HB2 : Hid (Below w1.heap.size w1 w2) := HB.out.trans (hb2.mono HB.out.size)
        clear hb2
        go_wp2
        go_roundw
        case rel => exact ⟨k + 1, a + cx, b, by omega, by go_num, HCA.out, HE.out, by omega, by omega, by go_num, rfl, HB2.out⟩
        case measure => simp [intOf]; omega
    · obtain rfl : k = d.kids.length := by omega
      rw [List.take_length] at HA HBB
      go_wp2
      go_ret2
      rw [HC.out.1, HC.out.2, ← HA.out, ← HBB.out]
      exact ⟨rfl, HBw.out⟩
end Go.Proofs.Ytbmejfcbladofaa
