/- Things are put; a page is filled. -/
import Derived.Test.YtbmejfcbladofaaU5
namespace Go.Proofs.Ytbmejfcbladofaa
open Go.RowKit

def Th.ind : Th → Int | .text _ => 0 | .line _ i => i | .hard i => i | .group _ => 0
def Th.putFn : Th → Nat | .text _ => 71 | .line _ _ => 75 | .hard _ => 88 | .group _ => 91
/-- Things that a page can bear. -/
structure OkL (l : List Th) : Prop where
  sz : ∀ t ∈ l, t.flatS.size ≤ 1000000000000
  ind : ∀ t ∈ l, 0 ≤ t.ind ∧ t.ind ≤ 200000
  grp : ∀ (j m : Nat), l[j]? = some (.group m) → j + 1 + m ≤ l.length
  sr : ∀ j, (Ytbmejfcbladofaa.sr (l.drop j)).b ≤ 1000000000000 ∧ (Ytbmejfcbladofaa.sr (l.drop j)).n ≤ 1000000000000 ∧ (Ytbmejfcbladofaa.sr (l.drop j)).h ≤ 1000000000000
theorem OkL.drop {l : List Th} (h : OkL l) (n : Nat) : OkL (l.drop n) := by
  refine ⟨fun t ht => h.sz t (List.mem_of_mem_drop ht), fun t ht => h.ind t (List.mem_of_mem_drop ht), fun j m hj => ?_, fun j => by rw [List.drop_drop]; exact h.sr _⟩
  rw [List.getElem?_drop] at hj
  have := h.grp _ _ hj
  rw [List.length_drop]
  omega
/-- A page that can bear m things more. -/
structure OkP (p : Pg) (m : Nat) : Prop where
  tx : p.tx.length ≤ 65536
  col : 0 ≤ p.col ∧ p.col ≤ 200000 + p.tx.length
  wd : 0 ≤ p.wd ∧ p.wd ≤ 9223372036854775807
  br : p.br + m ≤ 1000000
def putP (p : Pg) (l : List Th) : Th → Pg × List Th
  | .text s => (wrP p s, l)
  | .line _ i => (brkP p i.toNat, l)
  | .hard i => (brkP p i.toNat, l)
  | .group m => openP p l m
theorem wrP_wd (p : Pg) (s : ByteArray) : (wrP p s).wd = p.wd ∧ (wrP p s).br = p.br := by unfold wrP; split <;> exact ⟨rfl, rfl⟩
theorem wrP_ok {p : Pg} {m : Nat} (h : OkP p m) (s : ByteArray) : OkP (wrP p s) m := ⟨wrP_len p s h.tx, wrP_col p s h.col, by rw [(wrP_wd p s).1]; exact h.wd, by rw [(wrP_wd p s).2]; exact h.br⟩
theorem brkP_ok {p : Pg} {m i : Nat} (h : OkP p m) (hi : i ≤ 200000) : OkP (brkP p i) m := by
  have h1 := wrP_ok h (brkS i)
  exact ⟨h1.tx, ⟨by show (0 : Int) ≤ i; omega, by show (i : Int) ≤ 200000 + (wrP p (brkS i)).tx.length; omega⟩, h1.wd, h1.br⟩
theorem wrAll_okP {p : Pg} {m : Nat} (h : OkP p m) (l : List Th) : OkP (wrAll p l) m := by
  induction l generalizing p with
  | nil => exact h
  | cons t l ih => exact ih (wrP_ok h t.flatS)
theorem OkP.less {p : Pg} {m m' : Nat} (h : OkP p m) (hm : m' ≤ m) : OkP p m' := ⟨h.tx, h.col, h.wd, by have := h.br; omega⟩
theorem putP_ok {p : Pg} {l : List Th} {t : Th} (h : OkP p (l.length + 1)) (hi : 0 ≤ t.ind ∧ t.ind ≤ 200000) : OkP (putP p l t).1 (putP p l t).2.length := by
  cases t with
  | text s => exact (wrP_ok h s).less (Nat.le_succ _)
  | line s i => exact (brkP_ok h (by have := hi.2; simp only [Th.ind] at this; omega)).less (Nat.le_succ _)
  | hard i => exact (brkP_ok h (by have := hi.2; simp only [Th.ind] at this; omega)).less (Nat.le_succ _)
  | group m =>
    show OkP (openP p l m).1 (openP p l m).2.length
    unfold openP
    split
    · exact (wrAll_okP h _).less (by rw [List.length_drop]; omega)
    · exact ⟨h.tx, h.col, h.wd, by have := h.br; show p.br + 1 + l.length ≤ _; omega⟩
theorem putP_drop (p : Pg) (l : List Th) (t : Th) : ∃ n, (putP p l t).2 = l.drop n := by
  cases t with
  | text s => exact ⟨0, rfl⟩
  | line s i => exact ⟨0, rfl⟩
  | hard i => exact ⟨0, rfl⟩
  | group m =>
    show ∃ n, (openP p l m).2 = l.drop n
    unfold openP
    split
    · exact ⟨m, rfl⟩
    · exact ⟨0, rfl⟩
set_option maxRecDepth 100000 in
set_option maxHeartbeats 2000000 in
theorem put_any (lo PB tb sb : Nat) (p : Pg) (l : List Th) (t : Th) (tv rv fv : Value) (w : World) (h : PgAt lo PB tb sb p l tv rv fv w) (hp : OkP p (l.length + 1)) (hl : OkL (t :: l)) (hlo : lo ≤ w.heap.size) :
    Calls Try.prog t.putFn #[t.load, .pointer (some ⟨PB, 0, none⟩)] w fun e w' => (∃ r, e = .returned r) ∧ ∃ tv' rv' fv', PgAt lo PB tb sb (putP p l t).1 (putP p l t).2 tv' rv' fv' w' ∧ Turn PB tv tv' w w' := by
  have hll : l.length ≤ 1000000 := by have := hp.br; omega
  have hc1 : p.col ≤ 1000000 := by have := hp.col; have := hp.tx; omega
  have hi := hl.ind t (by simp)
  have hz := hl.sz t (by simp)
  cases t with
  | text s =>
    show Calls Try.prog 71 #[.string s, .pointer (some ⟨PB, 0, none⟩)] w _
    have hC : Hid _ := fun (_ : Unit) => write_any lo PB tb sb p l tv rv fv s w h hp.tx hp.col.1 hc1 hz hlo
    clear h hp hl hz hi
    go_enter Try.func71, Try.ntmps71
    go_wp2_with (go_at_call 72; refine (hC.out ()).mono ?_)
    rintro e w1 ⟨⟨r, rfl⟩, tv', hP, hT⟩
    have HP : Hid _ := hP
    clear hP
    go_wp2
    first | go_end0 | refine bodyPost_ret (results_none rfl _ _ _) rfl ?_
    exact ⟨⟨_, rfl⟩, tv', rv, fv, HP.out, hT⟩
  | line s i =>
    show Calls Try.prog 75 #[.agg #[.string s, .int .i64 i], .pointer (some ⟨PB, 0, none⟩)] w _
    obtain ⟨i, rfl⟩ := Int.eq_ofNat_of_zero_le hi.1
    have hi2 : i ≤ 200000 := by have := hi.2; simp only [Th.ind] at this; omega
    have hB : Below w.heap.size w (w.alloc (.cells #[.string s, .int .i64 (i : Int)] 95)) := (Below.refl _ _).alloc (Nat.le_refl _) _
    have hC : Hid _ := fun (_ : Unit) => break_any lo PB tb sb p l tv rv fv i _ (h.below hB) hp.tx hp.col.1 hc1 (by omega) (Nat.le_trans hlo hB.size)
    have HB : Hid _ := hB
    clear h hp hl hz hi hB
    go_enter Try.func75, Try.ntmps75
    go_wp2_with (go_at_call 68; refine (hC.out ()).mono ?_)
    rintro e w1 ⟨⟨r, rfl⟩, tv', hP, hT⟩
    have HP : Hid _ := hP
    have HT : Hid _ := hT
    clear hP hT
    go_wp2
    first | go_end0 | refine bodyPost_ret (results_none rfl _ _ _) rfl ?_
    exact ⟨⟨_, rfl⟩, tv', rv, fv, HP.out, (Turn.of_below HB.out).trans HT.out⟩
  | hard i =>
    show Calls Try.prog 88 #[.agg #[.int .i64 i], .pointer (some ⟨PB, 0, none⟩)] w _
    obtain ⟨i, rfl⟩ := Int.eq_ofNat_of_zero_le hi.1
    have hi2 : i ≤ 200000 := by have := hi.2; simp only [Th.ind] at this; omega
    have hB : Below w.heap.size w (w.alloc (.cells #[.int .i64 (i : Int)] 97)) := (Below.refl _ _).alloc (Nat.le_refl _) _
    have hC : Hid _ := fun (_ : Unit) => break_any lo PB tb sb p l tv rv fv i _ (h.below hB) hp.tx hp.col.1 hc1 (by omega) (Nat.le_trans hlo hB.size)
    have HB : Hid _ := hB
    clear h hp hl hz hi hB
    go_enter Try.func88, Try.ntmps88
    go_wp2_with (go_at_call 68; refine (hC.out ()).mono ?_)
    rintro e w1 ⟨⟨r, rfl⟩, tv', hP, hT⟩
    have HP : Hid _ := hP
    have HT : Hid _ := hT
    clear hP hT
    go_wp2
    first | go_end0 | refine bodyPost_ret (results_none rfl _ _ _) rfl ?_
    exact ⟨⟨_, rfl⟩, tv', rv, fv, HP.out, (Turn.of_below HB.out).trans HT.out⟩
  | group m =>
    show Calls Try.prog 91 #[.agg #[.int .i64 (m : Int)], .pointer (some ⟨PB, 0, none⟩)] w _
    have hg := hl.grp 0 m rfl
    simp only [List.length_cons] at hg
    have hB : Below w.heap.size w (w.alloc (.cells #[.int .i64 (m : Int)] 99)) := (Below.refl _ _).alloc (Nat.le_refl _) _
    have hC : Hid _ := fun (_ : Unit) => open_any lo PB tb sb p l tv rv fv m _ (h.below hB) (by omega) hll hp.tx hp.col (Nat.le_trans hlo hB.size) hp.wd (by have := hp.br; omega) (hl.sr 1) (hl.sr (m + 1)) (fun t ht => hl.sz t (List.mem_cons_of_mem _ ht))
    have HB : Hid _ := hB
    clear h hp hl hz hi hB
    go_enter Try.func91, Try.ntmps91
    go_wp2_with (go_at_call 92; refine (hC.out ()).mono ?_)
    rintro e w1 ⟨⟨r, rfl⟩, tv', rv', fv', hP, hT⟩
    have HP : Hid _ := hP
    have HT : Hid _ := hT
    clear hP hT
    go_wp2
    first | go_end0 | refine bodyPost_ret (results_none rfl _ _ _) rfl ?_
    exact ⟨⟨_, rfl⟩, tv', rv', fv', HP.out, (Turn.of_below HB.out).trans HT.out⟩
end Go.Proofs.Ytbmejfcbladofaa
