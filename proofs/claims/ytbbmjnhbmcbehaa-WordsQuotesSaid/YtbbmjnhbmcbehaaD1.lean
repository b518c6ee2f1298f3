/- The law WordsQuotes, walked. -/
import Derived.Test.YtbbmjnhbmcbehaaC6
import Derived.Test.YtbbmjnhbmcbehaaC7
import Derived.Test.YtbbmjnhbmcbehaaB1
import Derived.Deep.RegionHeld3
namespace Go.Proofs.Ytbbmjnhbmcbehaa
open Go.RowKit

theorem app_nil (ty : TypeId) (w : World) : (Builtin.append_ #[30, 30] ty #[.slice none 0 0, .slice none 0 0]).run Try.prog w = .ok (.slice none 0 0) w := by kernel_rfl
/-- A row of bytes that came in, put behind nothing. -/
theorem wpList_append_row {ops : Array Oper} {rest : List Oper} {o : Oper} {a : Act} {Q : Exit → Act → World → Prop} {w : World} (hgd : o.guard = none) (s x : Operand)
    (ho : o.op = .call { callee := .builtin .append, args := #[s, x], argTypes := #[30, 30] }) (L : List Nat) (ad : Option Addr) (c : Nat)
    (hs : a.eval s = .slice none 0 0) (hx : a.eval x = .slice ad L.length c) (hr : Row w ad L) (hc : ad = none → c = 0 ∧ L = []) (hn : L.length ≤ 65536)
    (h : ∀ v' w', w'.ownsRow w.heap.size 5 1 v' L.length (bytesV L) → Below w.heap.size w w' → wpList Try.prog ops Q rest (a.put o.dst v') w') :
    wpList Try.prog ops Q (o :: rest) a w := by
  obtain ⟨i0, hinf, hz0, hz1, hz2⟩ := info_parts info5
  cases ad with
  | none =>
    obtain ⟨rfl, rfl⟩ := hc rfl
    refine wpList_plain hgd fun K hK => ?_
    have hrun : (Builtin.append_ #[30, 30] o.type #[.slice none 0 0, .slice none 0 0]).run Try.prog w = .ok (.slice none 0 0) w := by
      exact app_nil _ _
    unfold Oper.wp execOp
    simp only [ho, resolve, invoke, builtin, Sem.run_bind, Sem.run_pure, Result.andThen_ok, List.map_toArray, List.map_cons, List.map_nil, hs, hx, hrun, List.length_nil]
    exact hK _ _ (h _ _ (World.ownsRow_nil _ _ _ _) (Below.refl _ _))
  | some x0 =>
    refine wpList_append_own w hgd s x 30 ho w.heap.size 5 i0 (.int .u8 0) 1 1 Try.underlying30 hinf hz0 hz1 hz2 rfl (by decide) _ _ _ hs (World.ownsRow_nil _ _ _ _) x0 L.length c (bytesV L) hx (by simp [bytesV]) (fun j u hu => ?_) (fun u hu => ?_) (by unfold maxLen; omega) (by omega) (Nat.le_refl _) fun v' w' hown hgrow _ => ?_
    · have hj : j < L.length := by
        have := (List.getElem?_eq_some_iff.1 hu).1; simpa [bytesV] using this
      obtain ⟨bk, o, e, _, hcell⟩ := hr j hj
      cases e
      have e2 : (⟨bk, o, none⟩ : Addr).add j = ⟨bk, o + j, none⟩ := by simp [Addr.add]
      rw [e2, hcell, ← hu]
      simp [bytesV, List.getD_eq_getElem?_getD, List.getElem?_eq_getElem hj]
    · simp only [bytesV, List.mem_map] at hu
      obtain ⟨n, _, rfl⟩ := hu
      rfl
    · rw [Nat.zero_add, List.nil_append] at hown
      exact h v' w' hown ((Below.refl _ _).grown hgrow (Nat.le_refl _) (fun j hj => by simp [Value.ownBlock] at hj))
theorem row_own {W : World} {base : Nat} {va : Option Addr} {vc : Nat} {L : List Nat} (h : W.ownsRow base 5 1 (.slice va L.length vc) L.length (bytesV L)) : Row W va L := by
  intro i hi
  rcases h.2 with ⟨e, h0⟩ | ⟨g, cap, cur, e, hrest⟩
  · omega
  · cases e
    refine ⟨g, 0, rfl, (h.lt g rfl).2, ?_⟩
    rw [Nat.zero_add, h.cellAt i (by omega), bytesV_get L i hi]
    simp [List.getD_eq_getElem?_getD, List.getElem?_eq_getElem hi]
/-- What stands while the law's last line is reckoned. -/
structure Qk (w : World) (B C : Nat) (p q : Nat) (v x y : Value) (a : Option Addr) (L X : List Nat) (W : World) : Prop where
  bx : Blk W B 26 #[.int .i64 p, .int .i64 q]
  by' : Blk W C 26 #[.int .i64 p, .int .i64 q]
  ro : W.ownsRow w.heap.size 5 1 v L.length (bytesV L)
  ra : Row W a L
  rx : W.ownsRow w.heap.size 5 1 x X.length (bytesV X)
  ry : W.ownsRow w.heap.size 5 1 y X.length (bytesV X)
  bel : Below w.heap.size w W
section
variable {w W W' : World} {B C p q : Nat} {v x y : Value} {a : Option Addr} {L X : List Nat}
theorem Qk.drew (h : Qk w B C p q v x y a L X W) : Qk w B C p q v x y a L X W.drew := ⟨h.bx, h.by', h.ro, h.ra, h.rx, h.ry, h.bel.drew⟩
theorem Qk.nx (hb : Below W.heap.size W W') (h : Qk w B C p q v x y a L X W) : Qk w B C p q v x y a L X W' :=
  ⟨h.bx.after hb, h.by'.after hb, row_below h.ro hb, h.ra.below hb (Nat.le_refl _), row_below h.rx hb, row_below h.ry hb, below_of h.bel hb⟩
theorem Qk.facts (h : Qk w B C p q v x y a L X W) (c : Nat) {SL SX : ByteArray} (h1 : strN L = SL) (h2 : strN X = SX) :
    W.cell? ⟨B, 0, none⟩ = some (.int .i64 p) ∧ W.cell? ⟨B, 1, none⟩ = some (.int .i64 q) ∧ W.cell? ⟨C, 0, none⟩ = some (.int .i64 p) ∧ W.cell? ⟨C, 1, none⟩ = some (.int .i64 q) ∧ (convert 30 9 v).run Try.prog W = .ok (.string SL) W ∧ (convert 30 9 (.slice a L.length c)).run Try.prog W = .ok (.string SL) W ∧ (convert 30 9 x).run Try.prog W = .ok (.string SX) W ∧ (convert 30 9 y).run Try.prog W = .ok (.string SX) W :=
  ⟨h.bx.cell 0 rfl, h.bx.cell 1 rfl, h.by'.cell 0 rfl, h.by'.cell 1 rfl, by rw [← h1]; exact row_conv h.ro, by rw [← h1]; exact arg_conv h.ra c, by rw [← h2]; exact row_conv h.rx, by rw [← h2]; exact row_conv h.ry⟩
end
set_option maxRecDepth 100000 in
set_option maxHeartbeats 8000000 in
theorem quotes_walk (L : List Nat) (a : Option Addr) (c : Nat) (hL : ∀ n ∈ L, n < 256) (hm : L.length ≤ maxLen) (hc : a = none → c = 0 ∧ L = []) (t : ByteArray) (w : World) (ha : Row w a L) :
    Calls Try.prog 4 #[.slice a L.length c, .string t] w fun e w' => e = .returned (.bool true) ∧ Below w.heap.size w w' := by
  unfold maxLen at hm
  have HL : Hid _ := fun w => alive_any w
  by_cases h1 : 65536 < L.length
  · have h1' : (65536 : Int) < L.length := by omega
    clear hc
    go_enter Try.func4, Try.ntmps4
    go_wp2_with (go_at_call 12; refine (HL.out _).mono ?_; rintro e w1 ⟨rfl, hb1⟩)
    go_ret
    exact ⟨rfl, hb1⟩
  have h1' : (L.length : Int) ≤ 65536 := by omega
  have HC : Hid _ := hc
  clear hc
  by_cases h2 : 65538 < t.size
  · have h2' : (65538 : Int) < t.size := by omega
    go_enter Try.func4, Try.ntmps4
    go_wp2_with (go_at_call 12; refine (HL.out _).mono ?_; rintro e w1 ⟨rfl, hb1⟩)
    go_ret
    exact ⟨rfl, hb1⟩
  have h2' : (t.size : Int) ≤ 65538 := by omega
  have HA : Hid _ := fun (W : World) (va : Option Addr) (vc : Nat) (hr : Row W va L) => quote_any L va vc W hL (by omega) hr
  have HB : Hid _ := fun (W : World) (hr : Row W a L) => rquote_any L a c W hL (by omega) hr
  have HU : Hid _ := fun w => unquote_any t w
  have HV : Hid _ := fun w => runquote_any t w (by omega)
  obtain ⟨QL, hQL⟩ : ∃ q : ByteArray, (⟨(quoteL L).toArray⟩ : ByteArray) = q := ⟨_, rfl⟩
  rw [hQL] at HA HB
  generalize unq t.data.toList = R at *
  obtain ⟨X, p, q⟩ := R
  simp only [fv] at HU HV
  obtain ⟨SL, hSL⟩ : ∃ q : ByteArray, strN L = q := ⟨_, rfl⟩
  obtain ⟨SX, hSX⟩ : ∃ q : ByteArray, strN X = q := ⟨_, rfl⟩
  have HSL : Hid _ := hSL
  have HSX : Hid _ := hSX
  clear hQL hSL hSX hL hm
  go_enter Try.func4, Try.ntmps4
  go_wp2_with (at_builtin; refine wpList_append_row rfl _ _ rfl L a c rfl rfl ha HC.out (by omega) ?_)
  intro v w1 hown hb1
  have ha1 := ha.below hb1 (Nat.le_refl _)
  go_wp2_with (go_at_call 16; refine (HU.out _).mono ?_)
  rintro e w2 ⟨x, rfl, hrx, hb2⟩
  go_wp2_with (go_at_call 17; refine (HV.out _).mono ?_)
  rintro e w3 ⟨y, rfl, hry, hb3⟩
  have hn2 : Below w2.heap.size w2 (w2.alloc (.cells #[.int .i64 (p : Int), .int .i64 (q : Int)] 26)) := (Below.refl _ _).alloc (Nat.le_refl _) _
  have hn3 : Below w3.heap.size w3 (w3.alloc (.cells #[.int .i64 (p : Int), .int .i64 (q : Int)] 26)) := (Below.refl _ _).alloc (Nat.le_refl _) _
  have hB2 := below_of hb1 hb2
  have hB2a := below_of hB2 hn2
  have hB3 := below_of hB2a hb3
  have hB3a := below_of hB3 hn3
  have T : Qk w w2.heap.size w3.heap.size p q v x y a L X (w3.alloc (.cells #[.int .i64 (p : Int), .int .i64 (q : Int)] 26)) :=
    ⟨((Blk.new w2 _ _).after hb3).after hn3, Blk.new _ _ _, row_below (row_below (row_below (row_below hown hb2) hn2) hb3) hn3, (((ha1.below hb2 (Nat.le_refl _)).below hn2 (Nat.le_refl _)).below hb3 (Nat.le_refl _)).below hn3 (Nat.le_refl _), row_below (row_below (row_below (row_mono hrx hb1.size) hn2) hb3) hn3, row_below (row_mono hry hB2a.size) hn3, hB3a⟩
  obtain ⟨va, vc, rfl⟩ := row_slice hown
  obtain ⟨xa, xc, rfl⟩ := row_slice hrx
  obtain ⟨ya, yc, rfl⟩ := row_slice hry
  clear hown hrx hry hb1 hb2 hb3 hn2 hn3 hB2 hB2a hB3 hB3a ha ha1 HU HV HC
  go_wp2_with (go_at_call 12; refine (HL.out _).mono ?_)
  rintro e w5 ⟨rfl, hb5⟩
  have T5 := Qk.nx hb5 T
  clear hb5 T
  go_wp2_with (go_at_call 18; refine (HA.out _ va vc (row_own T5.ro)).mono ?_)
  rintro e w6 ⟨rfl, hb6⟩
  have T6 := Qk.nx hb6 T5
  clear hb6 T5
  go_wp2_with (go_at_call 19; refine (HB.out _ T6.ra).mono ?_)
  rintro e w7 ⟨rfl, hb7⟩
  have T7 := Qk.nx hb7 T6
  clear hb7 T6
  obtain ⟨c1, c2, c3, c4, c5, c6, c7, c8⟩ := T7.facts c HSL.out HSX.out
  have HT : Hid _ := T7.bel
  clear T7
  go_wp2
  go_ret
  exact ⟨rfl, HT.out⟩
end Go.Proofs.Ytbbmjnhbmcbehaa
