/- A page is filled. -/
import Derived.Test.YtbmejfcbladofaaU6
namespace Go.Proofs.Ytbmejfcbladofaa
open Go.RowKit

def fillN : Nat → Pg → List Th → Pg × List Th
  | 0, p, l => (p, l)
  | _ + 1, p, [] => (p, [])
  | n + 1, p, t :: r => if p.long then (p, t :: r) else fillN n (putP p r t).1 (putP p r t).2
/-- How many things are still to be written. -/
def lenAt (PB : Nat) (W : World) : Nat := match W.cell? ⟨PB, 5, none⟩ with | some (.slice _ n _) => n | _ => 0
theorem PgAt.len {lo PB tb sb : Nat} {p : Pg} {l : List Th} {tv rv fv : Value} {W : World} (h : PgAt lo PB tb sb p l tv rv fv W) : lenAt PB W = l.length := by
  obtain ⟨a, c, e, _, _⟩ := h.th
  unfold lenAt
  rw [(blk_cell h.blk (j := 5) rfl).1, e]
  rfl
set_option maxRecDepth 100000 in
set_option maxHeartbeats 4000000 in
theorem fill_any (lo PB tb sb : Nat) (p : Pg) (l : List Th) (tv rv fv : Value) (w : World) (h : PgAt lo PB tb sb p l tv rv fv w) (hp : OkP p l.length) (hl : OkL l) (hlo : lo ≤ w.heap.size) :
    Calls Try.prog 35 #[.pointer (some ⟨PB, 0, none⟩)] w fun e w' => e = .returned (.bool (!(fillN l.length p l).1.long)) ∧ ∃ l' tv' rv' fv', PgAt lo PB tb sb (fillN l.length p l).1 l' tv' rv' fv' w' ∧ Turn PB tv tv' w w' := by
  have H : Hid (∃ (k : Nat) (p' : Pg) (l' : List Th) (tv' rv' fv' : Value), fillN k p' l' = fillN l.length p l ∧ l'.length ≤ k ∧ PgAt lo PB tb sb p' l' tv' rv' fv' w ∧ OkP p' l'.length ∧ OkL l' ∧ lo ≤ w.heap.size ∧ Turn PB tv tv' w w) := ⟨l.length, p, l, tv, rv, fv, rfl, Nat.le_refl _, h, hp, hl, hlo, Turn.refl _ _ _⟩
  clear h hp hl
  go_enter Try.func35, Try.ntmps35
  go_wp2
  go_loopw [] (fun W => ∃ (k : Nat) (p' : Pg) (l' : List Th) (tv' rv' fv' : Value), fillN k p' l' = fillN l.length p l ∧ l'.length ≤ k ∧ PgAt lo PB tb sb p' l' tv' rv' fv' W ∧ OkP p' l'.length ∧ OkL l' ∧ lo ≤ W.heap.size ∧ Turn PB tv tv' w W) (fun W => lenAt PB W)
  case atStart => exact H.out
  case round =>
    obtain ⟨k, p', l', tv', rv', fv', hN, hk, hP, hp, hl, hlo', hT⟩ := hrel
    have HLA : Hid _ := hP.len
    obtain ⟨c4, f4⟩ := blk_cell hP.blk (j := 4) rfl
    obtain ⟨c5, f5⟩ := blk_cell hP.blk (j := 5) rfl
    obtain ⟨a, c, rfl, hc, hth⟩ := hP.th
    clear hth H
    have HP : Hid _ := hP
    have HT : Hid _ := hT
    have HO : Hid _ := hp
    have HL : Hid _ := hl
    have HN : Hid _ := hN
    clear hP hT hp hl hN
    cases l' with
    | nil =>
      have HE : Hid ((fillN l.length p l).1 = p') := by show _ = _; rw [← HN.out]; cases k <;> rfl
      simp only [List.length_nil] at c5 hc hk
      go_wp2
      go_ret
      rw [HE.out]
      exact ⟨rfl, _, _, _, _, HP.out, HT.out⟩
    | cons t r =>
      simp only [List.length_cons] at c5 hc hk
      have hr1 : (0 : Int) < (r.length : Int) + 1 := by omega
      obtain ⟨k, rfl⟩ : ∃ j, k = j + 1 := ⟨k - 1, by omega⟩
      cases hlong : p'.long with
      | true =>
        have HE : Hid ((fillN l.length p l).1 = p') := by show _ = _; rw [← HN.out]; simp [fillN, hlong]
        have HG : Hid _ := hlong
        rw [hlong] at c4
        clear hlong
        go_wp2
        go_ret
        rw [HE.out, HG.out]
        exact ⟨rfl, _, _, _, _, HP.out, HT.out⟩
      | false =>
        have HE : Hid (fillN k (putP p' r t).1 (putP p' r t).2 = fillN l.length p l) := by show _ = _; rw [← HN.out]; simp [fillN, hlong]
        rw [hlong] at c4
        clear hlong
        have HC : Hid _ := fun (_ : Unit) => cut_all lo PB tb sb p' (t :: r) tv' _ fv' 1 wr HP.out (by simp)
        have hp1 : Hid (OkP (putP p' r t).1 (putP p' r t).2.length) := putP_ok HO.out (HL.out.ind t (by simp))
        have hl1 : Hid (OkL (putP p' r t).2) := by
          obtain ⟨n, e⟩ := putP_drop p' r t
          show OkL _
          rw [e]
          exact HL.out.drop (n + 1)
        have hle : (putP p' r t).2.length ≤ r.length := by
          obtain ⟨n, e⟩ := putP_drop p' r t
          rw [e, List.length_drop]; omega
        have HU : Hid _ := fun (w1 : World) (rv1 fv1 : Value) (h1 : PgAt lo PB tb sb p' r tv' rv1 fv1 w1) (hlo1 : lo ≤ w1.heap.size) => put_any lo PB tb sb p' r t tv' rv1 fv1 w1 h1 HO.out HL.out hlo1
        have HH : Hid (∀ (w1 w2 : World) (tv2 rv2 fv2 : Value), Turn PB tv' tv' wr w1 → PgAt lo PB tb sb (putP p' r t).1 (putP p' r t).2 tv2 rv2 fv2 w2 → Turn PB tv' tv2 w1 w2 → (∃ (k : Nat) (p' : Pg) (l' : List Th) (tv' rv' fv' : Value), fillN k p' l' = fillN l.length p l ∧ l'.length ≤ k ∧ PgAt lo PB tb sb p' l' tv' rv' fv' w2 ∧ OkP p' l'.length ∧ OkL l' ∧ lo ≤ w2.heap.size ∧ Turn PB tv tv' w w2) ∧ lenAt PB w2 < lenAt PB wr) := by
          intro w1 w2 tv2 rv2 fv2 h1 h2 h3
          refine ⟨⟨k, _, _, tv2, rv2, fv2, HE.out, by omega, h2, hp1.out, hl1.out, Nat.le_trans hlo' (Nat.le_trans h1.size h3.size), HT.out.trans (h1.trans h3)⟩, ?_⟩
          rw [h2.len, HLA.out, List.length_cons]; omega
        clear HE hp1 hl1 hle HO HL HN HP HT HLA
        obtain x | ⟨x, i⟩ | i | m := t
        · have hm := put_text x
          have HU' : Hid (∀ (w1 : World) (rv1 fv1 : Value) (h1 : PgAt lo PB tb sb p' r tv' rv1 fv1 w1) (hlo1 : lo ≤ w1.heap.size), Calls Try.prog 71 #[.string x, .pointer (some ⟨PB, 0, none⟩)] w1 fun e w' => (∃ r, e = .returned r) ∧ ∃ tv2 rv2 fv2, PgAt lo PB tb sb (putP p' r (.text x)).1 (putP p' r (.text x)).2 tv2 rv2 fv2 w' ∧ Turn PB tv' tv2 w1 w') := HU.out
          clear HU
          go_wp2_with (go_at_call 46; refine (HC.out ()).mono ?_)
          rintro e w1 ⟨⟨v, rv1, fv1, rfl, hth1, hP1⟩, hT1⟩
          obtain ⟨a1, d1, rfl, hd1, hcl⟩ := hth1
          obtain ⟨o1, rfl, hcell⟩ := hcl 0 (.text x) rfl
          simp only [Th.val, Nat.add_zero] at hcell
          have HP1 : Hid _ := hP1
          have HT1 : Hid _ := hT1
          have hlo1 : lo ≤ w1.heap.size := Nat.le_trans hlo' hT1.size
          clear hcl hP1 hT1 HC c4 c5 f4 f5
          go_wp2_with (go_at_call 71; refine (HU'.out _ _ _ HP1.out hlo1).mono ?_)
          rintro e w2 ⟨⟨r2, rfl⟩, tv2, rv2, fv2, hP2, hT2⟩
          have HZ : Hid _ := HH.out w1 w2 tv2 rv2 fv2 HT1.out hP2 hT2
          clear hP2 hT2 HH
          go_wp2
          exact HZ.out
        · have hm := put_line x i
          have HU' : Hid (∀ (w1 : World) (rv1 fv1 : Value) (h1 : PgAt lo PB tb sb p' r tv' rv1 fv1 w1) (hlo1 : lo ≤ w1.heap.size), Calls Try.prog 75 #[.agg #[.string x, .int .i64 i], .pointer (some ⟨PB, 0, none⟩)] w1 fun e w' => (∃ r, e = .returned r) ∧ ∃ tv2 rv2 fv2, PgAt lo PB tb sb (putP p' r (.line x i)).1 (putP p' r (.line x i)).2 tv2 rv2 fv2 w' ∧ Turn PB tv' tv2 w1 w') := HU.out
          clear HU
          go_wp2_with (go_at_call 46; refine (HC.out ()).mono ?_)
          rintro e w1 ⟨⟨v, rv1, fv1, rfl, hth1, hP1⟩, hT1⟩
          obtain ⟨a1, d1, rfl, hd1, hcl⟩ := hth1
          obtain ⟨o1, rfl, hcell⟩ := hcl 0 (.line x i) rfl
          simp only [Th.val, Nat.add_zero] at hcell
          have HP1 : Hid _ := hP1
          have HT1 : Hid _ := hT1
          have hlo1 : lo ≤ w1.heap.size := Nat.le_trans hlo' hT1.size
          clear hcl hP1 hT1 HC c4 c5 f4 f5
          go_wp2_with (go_at_call 75; refine (HU'.out _ _ _ HP1.out hlo1).mono ?_)
          rintro e w2 ⟨⟨r2, rfl⟩, tv2, rv2, fv2, hP2, hT2⟩
          have HZ : Hid _ := HH.out w1 w2 tv2 rv2 fv2 HT1.out hP2 hT2
          clear hP2 hT2 HH
          go_wp2
          exact HZ.out
        · have hm := put_hard i
          have HU' : Hid (∀ (w1 : World) (rv1 fv1 : Value) (h1 : PgAt lo PB tb sb p' r tv' rv1 fv1 w1) (hlo1 : lo ≤ w1.heap.size), Calls Try.prog 88 #[.agg #[.int .i64 i], .pointer (some ⟨PB, 0, none⟩)] w1 fun e w' => (∃ r, e = .returned r) ∧ ∃ tv2 rv2 fv2, PgAt lo PB tb sb (putP p' r (.hard i)).1 (putP p' r (.hard i)).2 tv2 rv2 fv2 w' ∧ Turn PB tv' tv2 w1 w') := HU.out
          clear HU
          go_wp2_with (go_at_call 46; refine (HC.out ()).mono ?_)
          rintro e w1 ⟨⟨v, rv1, fv1, rfl, hth1, hP1⟩, hT1⟩
          obtain ⟨a1, d1, rfl, hd1, hcl⟩ := hth1
          obtain ⟨o1, rfl, hcell⟩ := hcl 0 (.hard i) rfl
          simp only [Th.val, Nat.add_zero] at hcell
          have HP1 : Hid _ := hP1
          have HT1 : Hid _ := hT1
          have hlo1 : lo ≤ w1.heap.size := Nat.le_trans hlo' hT1.size
          clear hcl hP1 hT1 HC c4 c5 f4 f5
          go_wp2_with (go_at_call 88; refine (HU'.out _ _ _ HP1.out hlo1).mono ?_)
          rintro e w2 ⟨⟨r2, rfl⟩, tv2, rv2, fv2, hP2, hT2⟩
          have HZ : Hid _ := HH.out w1 w2 tv2 rv2 fv2 HT1.out hP2 hT2
          clear hP2 hT2 HH
          go_wp2
          exact HZ.out
        · have hm := put_group m
          have HU' : Hid (∀ (w1 : World) (rv1 fv1 : Value) (h1 : PgAt lo PB tb sb p' r tv' rv1 fv1 w1) (hlo1 : lo ≤ w1.heap.size), Calls Try.prog 91 #[.agg #[.int .i64 (m : Int)], .pointer (some ⟨PB, 0, none⟩)] w1 fun e w' => (∃ r, e = .returned r) ∧ ∃ tv2 rv2 fv2, PgAt lo PB tb sb (putP p' r (.group m)).1 (putP p' r (.group m)).2 tv2 rv2 fv2 w' ∧ Turn PB tv' tv2 w1 w') := HU.out
          clear HU
          go_wp2_with (go_at_call 46; refine (HC.out ()).mono ?_)
          rintro e w1 ⟨⟨v, rv1, fv1, rfl, hth1, hP1⟩, hT1⟩
          obtain ⟨a1, d1, rfl, hd1, hcl⟩ := hth1
          obtain ⟨o1, rfl, hcell⟩ := hcl 0 (.group m) rfl
          simp only [Th.val, Nat.add_zero] at hcell
          have HP1 : Hid _ := hP1
          have HT1 : Hid _ := hT1
          have hlo1 : lo ≤ w1.heap.size := Nat.le_trans hlo' hT1.size
          clear hcl hP1 hT1 HC c4 c5 f4 f5
          go_wp2_with (go_at_call 91; refine (HU'.out _ _ _ HP1.out hlo1).mono ?_)
          rintro e w2 ⟨⟨r2, rfl⟩, tv2, rv2, fv2, hP2, hT2⟩
          have HZ : Hid _ := HH.out w1 w2 tv2 rv2 fv2 HT1.out hP2 hT2
          clear hP2 hT2 HH
          go_wp2
          exact HZ.out
end Go.Proofs.Ytbmejfcbladofaa
