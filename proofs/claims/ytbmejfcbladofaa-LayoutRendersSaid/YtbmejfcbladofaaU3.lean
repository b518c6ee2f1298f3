/- Lines are broken; what things write in a flat group. -/
import Derived.Test.YtbmejfcbladofaaU2
namespace Go.Proofs.Ytbmejfcbladofaa
open Go.RowKit

def Th.flatS : Th → ByteArray | .text s => s | .line s _ => s | .hard _ => ⟨#[]⟩ | .group _ => ⟨#[]⟩
def Th.flatFn : Th → Nat | .text _ => 69 | .line _ _ => 73 | .hard _ => 86 | .group _ => 89
set_option maxRecDepth 100000 in
set_option maxHeartbeats 1000000 in
theorem flat_any (t : Th) (w : World) : Calls Try.prog t.flatFn #[t.load] w fun e w' => e = .returned (.string t.flatS) ∧ Below w.heap.size w w' := by
  cases t with
  | text x =>
    show Calls Try.prog 69 #[.string x] w _
    go_enter Try.func69, Try.ntmps69
    go_wp2
    go_ret
    exact ⟨rfl, Below.refl _ _⟩
  | line x i =>
    show Calls Try.prog 73 #[.agg #[.string x, .int .i64 i]] w _
    go_enter Try.func73, Try.ntmps73
    go_wp2
    go_ret
    exact ⟨rfl, (Below.refl _ _).alloc (Nat.le_refl _) _⟩
  | hard i =>
    show Calls Try.prog 86 #[.agg #[.int .i64 i]] w _
    go_enter Try.func86, Try.ntmps86
    go_wp2
    go_ret
    exact ⟨rfl, (Below.refl _ _).alloc (Nat.le_refl _) _⟩
  | group m =>
    show Calls Try.prog 89 #[.agg #[.int .i64 (m : Int)]] w _
    go_enter Try.func89, Try.ntmps89
    go_wp2
    go_ret
    exact ⟨rfl, (Below.refl _ _).alloc (Nat.le_refl _) _⟩
/-- A break, and so many blanks. -/
def brkS (i : Nat) : ByteArray := ⟨#[10]⟩ ++ ⟨(Lib.repeatL [32] i).toArray⟩
def brkP (p : Pg) (i : Nat) : Pg := { wrP p (brkS i) with col := (i : Int) }
theorem rep_len (i : Nat) : (Lib.repeatL [32] i : List UInt8).length = i := by
  induction i with
  | zero => rfl
  | succ n ih => simp_all [Lib.repeatL]
theorem brkS_size (i : Nat) : (brkS i).size = i + 1 := by
  unfold brkS
  rw [ByteArray.size_append]
  show 1 + (Lib.repeatL [32] i).toArray.size = _
  rw [List.size_toArray, rep_len]; omega
set_option maxRecDepth 100000 in
set_option maxHeartbeats 4000000 in
theorem break_any (lo PB tb sb : Nat) (p : Pg) (l : List Th) (tv rv fv : Value) (i : Nat) (w : World) (h : PgAt lo PB tb sb p l tv rv fv w) (ht : p.tx.length ≤ 65536) (hc0 : 0 ≤ p.col) (hc1 : p.col ≤ 1000000) (hi : i ≤ 1000000) (hlo : lo ≤ w.heap.size) :
    Calls Try.prog 68 #[.pointer (some ⟨PB, 0, none⟩), .int .i64 (i : Int)] w fun e w' => (∃ r, e = .returned r) ∧ ∃ tv', PgAt lo PB tb sb (brkP p i) l tv' rv fv w' ∧ Turn PB tv tv' w w' := by
  have h76 := repeat_any ⟨#[32]⟩ i w (by omega) (by show 1 * i ≤ _; omega)
  obtain ⟨r, hr⟩ : ∃ r : ByteArray, (⟨(Lib.repeatL [32] i).toArray⟩ : ByteArray) = r := ⟨_, rfl⟩
  have hrs : r.size = i := by rw [← hr]; show (Lib.repeatL [32] i).toArray.size = _; rw [List.size_toArray, rep_len]
  have hrs' : r.size ≤ 1000000 := by omega
  have h76' : Calls Try.prog 76 #[.string ⟨#[32]⟩, .int .i64 (i : Int)] w fun e w' => e = .returned (.string r) ∧ Below w.heap.size w w' := by rw [← hr]; exact h76
  have H76 : Hid _ := fun (_ : Unit) => h76'
  have H72 : Hid _ := fun W hW => write_any lo PB tb sb p l tv rv fv (brkS i) W hW ht hc0 hc1 (by rw [brkS_size]; omega)
  have hbs : brkS i = ⟨#[10]⟩ ++ r := by unfold brkS; rw [hr]
  rw [hbs] at H72
  have HBS : Hid _ := hbs
  clear h76 h76' hr hbs hrs
  go_enter Try.func68, Try.ntmps68
  go_wp2_with (first | (go_at_call 76; refine (H76.out ()).mono ?_; rintro e w1 ⟨rfl, hb1⟩; have hP1 := h.below hb1; have hl1 := Nat.le_trans hlo hb1.size; have HT1 : Hid (Turn PB tv tv w w1) := Turn.of_below hb1) | (go_at_call 72; refine (H72.out _ hP1 hl1).mono ?_))
  rintro e w2 ⟨⟨r9, rfl⟩, tv', hP2, hT2⟩
  rw [← HBS.out] at hP2
  obtain ⟨c2, f2⟩ := blk_cell hP2.blk (j := 2) rfl
  have hP3 := hP2.set 2 (.int .i64 (i : Int)) (p' := brkP p i) (rv' := rv) (fv' := fv) (l' := l) rfl rfl hP2.th hP2.sr
  have H3 : Hid _ := hP3
  have HT2 : Hid _ := hT2
  clear hP3 hP2 hT2 hP1
  go_wp2
  first | go_end0 | refine bodyPost_ret (results_none rfl _ _ _) rfl ?_
  exact ⟨⟨_, rfl⟩, tv', H3.out.1, (HT1.out.trans HT2.out).trans H3.out.2⟩
end Go.Proofs.Ytbmejfcbladofaa
