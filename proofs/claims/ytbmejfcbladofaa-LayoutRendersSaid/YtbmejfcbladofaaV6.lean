/- Render and Broken. -/
import Derived.Test.YtbmejfcbladofaaV5
namespace Go.Proofs.Ytbmejfcbladofaa
open Go.RowKit

/-- The text, how many groups are broken, the code. -/
def layT (d : Dc) (wd : Int) : ByteArray := if rightD d && !(layP d wd).long then ⟨(layP d wd).tx.toArray⟩ else ⟨#[]⟩
def layB (d : Dc) (wd : Int) : Int := if rightD d && !(layP d wd).long then ((layP d wd).br : Int) else 0
def layC (d : Dc) (wd : Int) : Int := if rightD d then (if (layP d wd).long then 2 else 0) else 140
theorem layV_eq (d : Dc) (wd : Int) : layV d wd = .tuple #[.string (layT d wd), .int .i64 (layB d wd), .int .i64 (layC d wd)] := rfl
set_option maxRecDepth 100000 in
theorem render_any (d : Dc) (sa : Option Addr) (sc f : Nat) (wd : Int) (w : World) (hk : DAt w w.heap.size f sa d.kids) (hsc : d.kids.length ≤ sc) (hlen : (pre d 1).length ≤ 1000000000000) (hok : rightD d = true → OkL (thg d 0) ∧ (thg d 0).length ≤ 1000000) (hwd : wd ≤ 9223372036854775807) :
    Calls Try.prog 11 #[.agg #[.int .i64 d.kind, .string d.text, .int .i64 d.n, .slice sa d.kids.length sc], .int .i64 wd] w fun e w' => e = .returned (.tuple #[.string (layT d wd), .int .i64 (layC d wd)]) ∧ Below w.heap.size w w' := by
  have HC : Hid _ := fun (W : World) (hW : Below w.heap.size w W) => lay_any d sa sc f wd W ((hk.keep hW).mono hW.size) hsc hlen hok hwd
  have HV : Hid _ := layV_eq d wd
  clear hk hok
  obtain ⟨w1, hw1⟩ : ∃ w1, w.alloc (.cells #[.int .i64 d.kind, .string d.text, .int .i64 d.n, .slice sa d.kids.length sc] 24) = w1 := ⟨_, rfl⟩
  have HB1 : Hid (Below w.heap.size w w1) := by show Below _ _ _; rw [← hw1]; exact (Below.refl _ _).alloc (Nat.le_refl _) _
  have a0 : w1.cell? ⟨w.heap.size, 0, none⟩ = some (.int .i64 d.kind) := by rw [← hw1]; exact cell_new 0 rfl
  have a1 : w1.cell? ⟨w.heap.size, 1, none⟩ = some (.string d.text) := by rw [← hw1]; exact cell_new 1 rfl
  have a2 : w1.cell? ⟨w.heap.size, 2, none⟩ = some (.int .i64 d.n) := by rw [← hw1]; exact cell_new 2 rfl
  have a3 : w1.cell? ⟨w.heap.size, 3, none⟩ = some (.slice sa d.kids.length sc) := by rw [← hw1]; exact cell_new 3 rfl
  go_enter Try.func11, Try.ntmps11
  go_wp2_with (go_at_call 21; refine (HC.out w1 HB1.out).mono ?_)
  rintro e w2 ⟨rfl, hb⟩
  rw [HV.out]
  have HB2 : Hid (Below w.heap.size w w2) := HB1.out.trans (hb.mono HB1.out.size)
  clear hb
  go_wp2
  refine bodyPost_ret (results_tmp2 rfl _ _ _) rfl ?_
  exact ⟨rfl, HB2.out⟩
set_option maxRecDepth 100000 in
theorem broken_any (d : Dc) (sa : Option Addr) (sc f : Nat) (wd : Int) (w : World) (hk : DAt w w.heap.size f sa d.kids) (hsc : d.kids.length ≤ sc) (hlen : (pre d 1).length ≤ 1000000000000) (hok : rightD d = true → OkL (thg d 0) ∧ (thg d 0).length ≤ 1000000) (hwd : wd ≤ 9223372036854775807) :
    Calls Try.prog 12 #[.agg #[.int .i64 d.kind, .string d.text, .int .i64 d.n, .slice sa d.kids.length sc], .int .i64 wd] w fun e w' => e = .returned (.tuple #[.int .i64 (layB d wd), .int .i64 (layC d wd)]) ∧ Below w.heap.size w w' := by
  have HC : Hid _ := fun (W : World) (hW : Below w.heap.size w W) => lay_any d sa sc f wd W ((hk.keep hW).mono hW.size) hsc hlen hok hwd
  have HV : Hid _ := layV_eq d wd
  clear hk hok
  obtain ⟨w1, hw1⟩ : ∃ w1, w.alloc (.cells #[.int .i64 d.kind, .string d.text, .int .i64 d.n, .slice sa d.kids.length sc] 24) = w1 := ⟨_, rfl⟩
  have HB1 : Hid (Below w.heap.size w w1) := by show Below _ _ _; rw [← hw1]; exact (Below.refl _ _).alloc (Nat.le_refl _) _
  have a0 : w1.cell? ⟨w.heap.size, 0, none⟩ = some (.int .i64 d.kind) := by rw [← hw1]; exact cell_new 0 rfl
  have a1 : w1.cell? ⟨w.heap.size, 1, none⟩ = some (.string d.text) := by rw [← hw1]; exact cell_new 1 rfl
  have a2 : w1.cell? ⟨w.heap.size, 2, none⟩ = some (.int .i64 d.n) := by rw [← hw1]; exact cell_new 2 rfl
  have a3 : w1.cell? ⟨w.heap.size, 3, none⟩ = some (.slice sa d.kids.length sc) := by rw [← hw1]; exact cell_new 3 rfl
  go_enter Try.func12, Try.ntmps12
  go_wp2_with (go_at_call 21; refine (HC.out w1 HB1.out).mono ?_)
  rintro e w2 ⟨rfl, hb⟩
  rw [HV.out]
  have HB2 : Hid (Below w.heap.size w w2) := HB1.out.trans (hb.mono HB1.out.size)
  clear hb
  go_wp2
  refine bodyPost_ret (results_tmp2 rfl _ _ _) rfl ?_
  exact ⟨rfl, HB2.out⟩
end Go.Proofs.Ytbmejfcbladofaa
