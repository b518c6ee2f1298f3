/- Of which kind a document is; the iterator over its parts. -/
import Derived.Test.YtbmejfcbladofaaI3
import Derived.Lib.Bytealg
namespace Go.Proofs.Ytbmejfcbladofaa
open Go.RowKit Go.Shelf

theorem ret_bool {a b : Bool} (h : a = b) : Ending.returned (.bool a) = .returned (.bool b) := by rw [h]
set_option maxRecDepth 100000 in
set_option maxHeartbeats 400000 in
theorem idx2_any (s : ByteArray) (n : Nat) (w : World) :
    Calls Try.prog 49 #[.string s, .int .u8 n] w fun e w' => e = .returned (.int .i64 (Lib.indexByte s.data.toList n.toUInt8)) ∧ w' = w := by
  go_enter Try.func49, Try.ntmps49
  go_wp2
  rw [run_callFunc_extern Try.func51 (by kernel_rfl) (by kernel_rfl) (by kernel_rfl) (e := Extern.BytealgIndexByte.indexByte) (by kernel_rfl), Lib.run_indexByteString]
  simp only [Result.andThen]
  rw [Oper.upon_value]
  go_wp2
  go_ret
  exact ⟨rfl, rfl⟩
set_option maxRecDepth 100000 in
set_option maxHeartbeats 400000 in
theorem idx_any (s : ByteArray) (n : Nat) (w : World) :
    Calls Try.prog 43 #[.string s, .int .u8 n] w fun e w' => e = .returned (.int .i64 (Lib.indexByte s.data.toList n.toUInt8)) ∧ w' = w := by
  go_enter Try.func43, Try.ntmps43
  go_wp2_with (go_at_call 49; refine (idx2_any _ _ _).mono ?_; rintro e w' ⟨rfl, rfl⟩)
  go_ret
  exact ⟨rfl, rfl⟩
def noTen (s : ByteArray) : Bool := decide (Lib.indexByte s.data.toList 10 < 0)
/-- Has a document the fields of its kind, and no others? -/
def okC (kd : Int) (tx : ByteArray) (nn : Int) (kl : Nat) : Bool :=
  if kd = 1 ∨ kd = 2 then decide (nn = 0) && decide (kl = 0) && noTen tx
  else if kd = 3 then decide (nn = 0) && decide (kl = 0) && tx.toList.isEmpty
  else if kd = 4 then decide (0 ≤ nn) && decide (nn ≤ 1000) && tx.toList.isEmpty
  else if kd = 5 ∨ kd = 6 then decide (nn = 0) && tx.toList.isEmpty
  else false
def okK (d : Dc) : Bool := okC d.kind d.text d.n d.kids.length
set_option maxRecDepth 100000 in
set_option maxHeartbeats 4000000 in
theorem isOfKind_any (d : Dc) (B f b o : Nat) (w : World) (hd : DocAt w B f b o d) :
    Calls Try.prog 31 #[.pointer (some ⟨b, o, none⟩)] w fun e w' => e = .returned (.bool (okK d)) ∧ w' = w := by
  obtain ⟨_, sa, sc, c0, c1, c2, c3, _, _⟩ := hd
  have H43 : Hid _ := fun s w => idx_any s 10 w
  unfold okK
  generalize d.kind = kd at *
  generalize d.text = tx at *
  generalize d.n = nn at *
  generalize d.kids.length = kl at *
  by_cases h1 : kd = 1
  · subst h1
    go_enter Try.func31, Try.ntmps31
    go_wp2_with (go_at_call 43; refine (H43.out _ _).mono ?_; rintro e w' ⟨rfl, rfl⟩)
    all_goals (go_ret; refine ⟨ret_bool ?_, rfl⟩; simp [okC, noTen, *])
  by_cases h2 : kd = 2
  · subst h2
    go_enter Try.func31, Try.ntmps31
    go_wp2_with (go_at_call 43; refine (H43.out _ _).mono ?_; rintro e w' ⟨rfl, rfl⟩)
    all_goals (go_ret; refine ⟨ret_bool ?_, rfl⟩; simp [okC, noTen, *])
  by_cases h3 : kd = 3
  · subst h3
    go_enter Try.func31, Try.ntmps31
    go_wp2
    all_goals (go_ret; refine ⟨ret_bool ?_, rfl⟩; simp [okC, *] <;> (intros; omega))
  by_cases h4 : kd = 4
  · subst h4
    go_enter Try.func31, Try.ntmps31
    go_wp2
    all_goals (go_ret; refine ⟨ret_bool ?_, rfl⟩; simp [okC, *] <;> (intros; omega))
  by_cases h5 : kd = 5
  · subst h5
    go_enter Try.func31, Try.ntmps31
    go_wp2
    all_goals (go_ret; refine ⟨ret_bool ?_, rfl⟩; simp [okC, *] <;> (intros; omega))
  by_cases h6 : kd = 6
  · subst h6
    go_enter Try.func31, Try.ntmps31
    go_wp2
    all_goals (go_ret; refine ⟨ret_bool ?_, rfl⟩; simp [okC, *] <;> (intros; omega))
  have g1 : (kd == 1) = false := by simpa using h1
  have g2 : (kd == 2) = false := by simpa using h2
  have g3 : (kd == 3) = false := by simpa using h3
  have g4 : (kd == 4) = false := by simpa using h4
  have g5 : (kd == 5) = false := by simpa using h5
  have g6 : (kd == 6) = false := by simpa using h6
  go_enter Try.func31, Try.ntmps31
  go_wp2
  all_goals (go_ret; refine ⟨ret_bool ?_, rfl⟩; simp [okC, h1, h2, h3, h4, h5, h6])
set_option maxHeartbeats 400000 in
theorem parts_any (p : Addr) (w : World) : Calls Try.prog 29 #[.pointer (some p), .func (.func 30) #[] #[]] w fun e w' => e = .returned (.func (.func 42) #[] #[.pointer (some ⟨w.heap.size, 0, none⟩), .pointer (some ⟨w.heap.size + 1, 0, none⟩)]) ∧ w' = (w.alloc (.cells #[.pointer (some p)] 60)).alloc (.cells #[.func (.func 30) #[] #[]] 76) := by
  have hmf : ∀ (fn : Fn) (first cap : Array Value) (w : World), (Instr.makeFunc fn first cap).run Try.prog w = .ok (.func fn first cap) w := fun _ _ _ _ => rfl
  go_enter Try.func29, Try.ntmps29
  go_wp2
  go_ret
  exact ⟨rfl, rfl⟩
end Go.Proofs.Ytbmejfcbladofaa
