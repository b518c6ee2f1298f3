/- How long the shortest texts are. -/
import Derived.Test.YtopbibhpekjaeaaQ3
namespace Go.Proofs.Ytopbibhpekjaeaa
open Go.RowKit

theorem kn_bound {d : Nat → Option Nat} (hd : ∀ x v, d x = some v → v ≤ 512) : ∀ l : List Ks, kn d l ≤ 512 * l.length
  | [] => by simp [kn]
  | s :: l => by
    have ih := kn_bound hd l
    rw [List.length_cons]
    by_cases hn : s.nt < 0
    · rw [kn_by hn]; split <;> omega
    · rw [kn_nt (by omega)]
      cases hv : d s.nt.toNat with
      | none => simp; omega
      | some v => have := hd _ v hv; simp; omega
def dc (d : Nat → Option Nat) (N : Nat) : Nat := (List.range N).countP fun x => (d x).isSome
theorem dc_le (d : Nat → Option Nat) (N : Nat) : dc d N ≤ N := by unfold dc; exact Nat.le_trans List.countP_le_length (by simp)
theorem dc_set {d : Nat → Option Nat} {N x n : Nat} (hx : d x = none) (hN : x < N) : dc d N + 1 ≤ dc (dset d x n) N := by
  unfold dc
  refine countP_lt _ _ _ (fun y _ hy => ?_) ⟨x, by simpa using hN, by simp [dset], by simp [hx]⟩
  unfold dset; split
  · rfl
  · exact hy
theorem shOf_set {so : List Bool} {d : Nat → Option Nat} {x n : Nat} {sh : List Int} {N : Nat} (hl : sh.length = N) (hx : x < N) (h : ∀ y, y < N → sh.getD y 0 = shOf so d y) : ∀ y, y < N → (sh.set x (n : Int)).getD y 0 = shOf so (dset d x n) y := by
  intro y hy
  rw [getD_set_int _ _ _ _ (by omega)]
  unfold shOf dset
  by_cases e : y = x
  · rw [if_pos e, if_pos e]
  · rw [if_neg e, if_neg e]; exact h y hy
theorem LB.low {W : World} {base L g q : Nat} {hd vs : List Value} {f : Nat → List Nat} (h : LB W base L hd vs f) (hg : g < base) (hL : base ≤ L) (u : Value) : LB (W.setCell ⟨g, q, none⟩ u) base L hd vs f :=
  ⟨by rw [Below.heap_setCell _ _ _ _ (by show L ≠ g; omega)]; exact h.blk, h.hl, h.vl, ⟨fun i v hv => ownsRow_setCell_below (h.rows.inner i v hv) hg u, h.rows.apart⟩⟩
/-- Memory while lengths are found: the answer at SB, the table of users below W2's end, lengths behind it. -/
structure HM (w W1 W2 : World) (SB L N : Nat) (hd : List Value) (sh : List Int) (vs : List Value) (f : Nat → List Nat) (W : World) : Prop where
  bel : Below w.heap.size w W
  siz : W2.heap.size + 1 ≤ W.heap.size
  sh : W.ownsRow SB 3 1 (.slice (some ⟨SB, 0, none⟩) N N) N (intsZ sh)
  fr : ∀ b, W1.heap.size ≤ b → b < W2.heap.size → W.heap[b]? = W2.heap[b]?
  lb : LB W (W2.heap.size + 1) L hd vs f
section
variable {w W1 W2 W W' : World} {SB L N : Nat} {hd vs vs' : List Value} {sh : List Int} {f f' : Nat → List Nat}
theorem HM.put (h : HM w W1 W2 SB L N hd sh vs f W) (hw : w.heap.size ≤ SB) (h1 : SB < W1.heap.size) (h2 : W1.heap.size ≤ W2.heap.size) (hL : W2.heap.size + 1 ≤ L) (x : Nat) (v : Int) : HM w W1 W2 SB L N hd (sh.set x v) vs f (W.setCell ⟨SB, x, none⟩ (.int .i64 v)) := by
  have hst := h.sh.stored x (.int .i64 v)
  refine ⟨h.bel.setCell (p := ⟨SB, x, none⟩) hw _, by have := h.siz; simpa [World.setCell] using this, by rw [intsZ_set]; exact hst.1, fun b hb1 hb2 => ?_, h.lb.low (by omega) hL _⟩
  rw [Below.heap_setCell _ _ _ _ (by show b ≠ SB; omega)]; exact h.fr b hb1 hb2
theorem HM.lower (h : HM w W1 W2 SB L N hd sh vs f W) (hw : w.heap.size ≤ SB) (h1 : SB < W1.heap.size) (h2 : W1.heap.size ≤ W2.heap.size) (hb : Below (W2.heap.size + 1) W W') (hlb : LB W' (W2.heap.size + 1) L hd vs' f') : HM w W1 W2 SB L N hd sh vs' f' W' := by
  refine ⟨h.bel.trans (hb.mono (by omega)), Nat.le_trans h.siz hb.size, row_belowB h.sh hb (fun g hg => ?_), fun b hb1 hb2 => (hb.block b (by omega)).trans (h.fr b hb1 hb2), hlb⟩
  have : SB = g := by simpa [Value.ownBlock] using hg
  omega
end
theorem bnd_gen {x v N M K : Nat} (h : x ≤ 16384 + v * K) (h2 : v ≤ N) (hN : N ≤ M) : x ≤ 16384 + M * K := Nat.le_trans h (Nat.add_le_add_left (Nat.mul_le_mul_right K (Nat.le_trans h2 hN)) _)
theorem bnd_of {x v N : Nat} (h : x ≤ 16384 + v * 655360) (h2 : v ≤ N) (hN : N ≤ 4096) : x ≤ 16384 + 4096 * 655360 := bnd_gen h h2 hN
theorem bnd_two {x D D' u K : Nat} (h : x ≤ 16384 + D * K + u) (hu : u ≤ K) (hd : D + 1 ≤ D') : x ≤ 16384 + D' * K := by
  have h1 := Nat.mul_le_mul_right K hd
  rw [Nat.add_mul, Nat.one_mul] at h1
  exact Nat.le_trans h (by rw [Nat.add_assoc]; exact Nat.add_le_add_left (Nat.le_trans (Nat.add_le_add_left hu _) h1) _)
theorem bnd_three {x v u : Nat} (h : x ≤ 16384 + v * 655360 + u) (hv : v ≤ 4096) (hu : u ≤ 655360) : x ≤ 1000000000000 :=
  Nat.le_trans h (Nat.le_trans (Nat.add_le_add (Nat.add_le_add_left (Nat.mul_le_mul_right _ hv) _) hu) (by decide))
theorem ms_le (d : Nat → Option Nat) : ∀ l : List Ks, ms d l ≤ l.length
  | [] => by simp [ms]
  | s :: l => by
    have ih := ms_le d l
    rw [List.length_cons]
    by_cases hn : s.nt < 0
    · rw [ms_by hn]; split <;> omega
    · rw [ms_nt (by omega)]; split <;> omega
theorem SJ.kbound {N : Nat} {rs : List Rl} {d : Nat → Option Nat} {kw mi : List Nat} {ready : Nat → List Nat} {n i x u k : Nat} {r : Rl} (hok : Ok N rs) (h : SJ N rs d kw mi ready n i x u) (hn : n ≤ 512) (hr : rs[k]? = some r) : kw.getD k 0 ≤ 81920 := by
  have h1 := h.hk k r hr
  have h2 := h.hm k r hr
  have h3 := ms_le d r.rhs
  have h4 := hok.rhs r (List.mem_of_getElem? hr)
  have h5 := kn_bound (d := d) (fun x v hv => by have := (h.min x v hv).1; omega) r.rhs
  have h6 : n * ((usr rs x rs.length).take u).count k ≤ 512 * 80 := Nat.mul_le_mul hn (by omega)
  omega
theorem SJ.look {N : Nat} {rs : List Rl} {d : Nat → Option Nat} {ready f f3 fN : Nat → List Nat} {n i x u k p q B : Nat} {r : Rl} (hok : Ok N rs) (h : SJ N rs d (f 0) (f 1) ready n i x u) (hk : (usr rs x rs.length)[u]? = some k) (hr : rs[k]? = some r) (hp : (f 0).getD k 0 = p) (hq : (f 1).getD k 0 = q + 1)
    (e0 : f3 0 = (f 0).set k (p + n)) (e1 : f3 1 = (f 1).set k q) (e2 : ∀ m, f3 (2 + m) = f (2 + m)) (el : ∀ i, (f3 i).length = (f i).length) (hrd : ∀ m, m ≤ 512 → f (2 + m) = ready m) (hfl : ∀ q, (f q).length ≤ B + u)
    (hN : fN = if (f3 1).getD k 0 = 0 ∧ (f3 0).getD k 0 ≤ 512 then (fun i => if i = 2 + (f3 0).getD k 0 then f3 i ++ [r.lhs.toNat] else f3 i) else f3) :
    ∃ ready', SJ N rs d (fN 0) (fN 1) ready' n i x (u + 1) ∧ (∀ m, m ≤ 512 → fN (2 + m) = ready' m) ∧ ∀ q, (fN q).length ≤ B + (u + 1) := by
  have hkl := (List.getElem?_eq_some_iff.1 hr).1
  have g0 : (f3 0).getD k 0 = p + n := by rw [e0, getD_set_nat _ _ _ _ (by rw [h.lk]; exact hkl), if_pos rfl]
  have g1 : (f3 1).getD k 0 = q := by rw [e1, getD_set_nat _ _ _ _ (by rw [h.lm]; exact hkl), if_pos rfl]
  rw [g0, g1] at hN
  by_cases hc : q = 0 ∧ p + n ≤ 512
  · rw [if_pos hc] at hN
    obtain ⟨rfl, hpn⟩ := hc
    have hS := h.ripe hok hk hr hq
    rw [hp] at hS
    subst hN
    refine ⟨rset ready (p + n) r.lhs.toNat, ?_, fun m hm => ?_, fun q => ?_⟩
    rotate_left
    · show (if 2 + m = 2 + (p + n) then f3 (2 + m) ++ [r.lhs.toNat] else f3 (2 + m)) = rset ready (p + n) r.lhs.toNat m
      unfold rset
      rw [e2 m, hrd m hm]
      by_cases e : m = p + n
      · rw [if_pos (by omega), if_pos e]
      · rw [if_neg (by omega), if_neg e]
    · show (if q = 2 + (p + n) then f3 q ++ [r.lhs.toNat] else f3 q).length ≤ _
      have := hfl q
      have := el q
      split
      · rw [List.length_append, List.length_singleton]; omega
      · omega
    · have i0 : (if 0 = 2 + (p + n) then f3 0 ++ [r.lhs.toNat] else f3 0) = f3 0 := if_neg (by omega)
      have i1 : (if 1 = 2 + (p + n) then f3 1 ++ [r.lhs.toNat] else f3 1) = f3 1 := if_neg (by omega)
      show SJ N rs d (if 0 = 2 + (p + n) then f3 0 ++ [r.lhs.toNat] else f3 0) (if 1 = 2 + (p + n) then f3 1 ++ [r.lhs.toNat] else f3 1) _ n i x (u + 1)
      rw [i0, i1, e0, e1]
      exact hS
  · rw [if_neg hc] at hN
    have hS := h.tell hok hk hr (fun hh => hc ⟨by omega, by omega⟩)
    rw [hp, hq, Nat.add_sub_cancel] at hS
    subst hN
    exact ⟨ready, by rw [e0, e1]; exact hS, fun m hm => by rw [e2 m]; exact hrd m hm, fun q => by have := hfl q; have := el q; omega⟩
theorem row_fr {W W' : World} {base k n : Nat} {e : TypeId} {v : Value} {xs : List Value} (h : W.ownsRow base e k v n xs) (hf : ∀ b, base ≤ b → b < W.heap.size → W'.heap[b]? = W.heap[b]?) : W'.ownsRow base e k v n xs := by
  refine ⟨h.1, ?_⟩
  rcases h.2 with h0 | ⟨g, cap, cur, hv, hbg, hg, rest⟩
  · exact .inl h0
  · exact .inr ⟨g, cap, cur, hv, hbg, (hf g hbg (heap_lt' hg)).trans hg, rest⟩
theorem tab_cell2 {W W' : World} {base gt tc N i : Nat} {f : Nat → List Nat} {vs : List Value} (h : Tab W base (.slice (some ⟨gt, 0, none⟩) N tc) N f vs) (hf : ∀ b, base ≤ b → b < W.heap.size → W'.heap[b]? = W.heap[b]?) (hi : i < N) : ∃ a c, W'.cell? ⟨gt, i, none⟩ = some (.slice a (f i).length c) ∧ W.ownsRow base 3 1 (.slice a (f i).length c) (f i).length (intsV (f i)) := by
  obtain ⟨v, hv⟩ : ∃ v, vs[i]? = some v := ⟨vs[i]'(by rw [h.len]; exact hi), by simp⟩
  have h1 := (h.fr hf).row.cellAt i (by omega)
  rw [hv] at h1
  have h2 := h.inner i v hv
  obtain ⟨a, c, rfl⟩ := row_slice h2
  exact ⟨a, c, h1, h2⟩
theorem LB.cut {W : World} {base L : Nat} {hd vs : List Value} {f : Nat → List Nat} (h : LB W base L hd vs f) : ∃ f', LB W base L hd vs f' ∧ (∀ i, i < 515 → f' i = f i) ∧ ∀ i, 515 ≤ i → f' i = [] := by
  refine ⟨fun i => if i < 515 then f i else [], ⟨h.blk, h.hl, h.vl, fun i v hv => ?_, h.rows.apart⟩, fun i hi => if_pos hi, fun i hi => if_neg (by omega)⟩
  have hi : i < 515 := by rw [← h.vl]; exact (List.getElem?_eq_some_iff.1 hv).1
  show W.ownsRow _ _ _ _ (if i < 515 then f i else []).length (intsV (if i < 515 then f i else []))
  rw [if_pos hi]; exact h.rows.inner i v hv
theorem mx_ex : ∃ MX : Nat, (∀ {x v N : Nat}, x ≤ 16384 + v * 655360 → v ≤ N → N ≤ 4096 → x ≤ MX) ∧ MX ≤ 10000000000 := ⟨16384 + 4096 * 655360, fun h h2 h3 => bnd_of h h2 h3, by decide⟩
def Shorts (base N : Nat) (rs : List Rl) (v : Value) (W : World) : Prop := ∃ sh : List Int, W.ownsRow base 3 1 v N (intsZ sh) ∧ ShortOk N rs sh
set_option maxRecDepth 100000 in
set_option maxHeartbeats 16000000 in
theorem shortest_any (N : Nat) (S : Int) (rs : List Rl) (a : Option Addr) (c : Nat) (w : World) (hok : Ok N rs) (hR : RAt w w.heap.size a rs) :
    Calls Try.prog 53 #[.agg #[.int .i64 (N : Int), .int .i64 S, .slice a rs.length c]] w fun e w' => (∃ v, e = .returned v ∧ Shorts w.heap.size N rs v w') ∧ Below w.heap.size w w' := by
  have hn1 := hok.n1
  have hn2 := hok.n2
  obtain ⟨MX, hMX, hMX2⟩ := mx_ex
  have hlenR := hok.len
  obtain ⟨W0, hW0⟩ : ∃ W0, w.alloc (.cells #[.int .i64 (N : Int), .int .i64 S, .slice a rs.length c] 24) = W0 := ⟨_, rfl⟩
  have hs0 : W0.heap.size = w.heap.size + 1 := by rw [← hW0]; simp
  have hB0 : Below w.heap.size w W0 := by rw [← hW0]; exact (Below.refl _ _).alloc (Nat.le_refl _) _
  have c0 : W0.cell? ⟨w.heap.size, 0, none⟩ = some (.int .i64 (N : Int)) := by rw [← hW0]; exact cell_new 0 rfl
  have c1 : W0.cell? ⟨w.heap.size, 1, none⟩ = some (.int .i64 S) := by rw [← hW0]; exact cell_new 1 rfl
  have c2 : W0.cell? ⟨w.heap.size, 2, none⟩ = some (.slice a rs.length c) := by rw [← hW0]; exact cell_new 2 rfl
  have H69 : Hid _ := fun (_ : Unit) => longer_any N S rs a c W0 hok ((hR.keep hB0).mono (by omega))
  go_enter Try.func53, Try.ntmps53
  go_wp2_with (go_at_call 69; refine (H69.out ()).mono ?_)
  rintro e W1 ⟨sh, so, rfl, hsh, hshl, hshv, hL, hb1⟩
  obtain ⟨SB, hSB⟩ : ∃ SB, W0.heap.size + 1 = SB := ⟨_, rfl⟩
  rw [hSB] at hsh ⊢
  have hSB1 : SB < W1.heap.size := (hsh.lt SB rfl).2
  have hs1 := hb1.size
  have d0 : W1.cell? ⟨w.heap.size, 0, none⟩ = some (.int .i64 (N : Int)) := (hb1.cell (p := ⟨w.heap.size, 0, none⟩) (by simp; omega)).trans c0
  have d1 : W1.cell? ⟨w.heap.size, 1, none⟩ = some (.int .i64 S) := (hb1.cell (p := ⟨w.heap.size, 1, none⟩) (by simp; omega)).trans c1
  have d2 : W1.cell? ⟨w.heap.size, 2, none⟩ = some (.slice a rs.length c) := (hb1.cell (p := ⟨w.heap.size, 2, none⟩) (by simp; omega)).trans c2
  have hBw1 := below_of hB0 hb1
  have H70 : Hid _ := fun (_ : Unit) => users_any N S rs a c W1 hok ((hR.keep hBw1).mono (by omega))
  go_wp2_with (go_at_call 70; refine (H70.out ()).mono ?_)
  rintro e W2 ⟨tv, vs0, rfl, hT, hb2⟩
  have hs2 := hb2.size
  have f0 := (hb2.cell (p := ⟨w.heap.size, 0, none⟩) (by simp; omega)).trans d0
  have f1 := (hb2.cell (p := ⟨w.heap.size, 1, none⟩) (by simp; omega)).trans d1
  have f2 := (hb2.cell (p := ⟨w.heap.size, 2, none⟩) (by simp; omega)).trans d2
  have hBw2 : Below w.heap.size w W2 := hBw1.trans (hb2.mono (by omega))
  have H71 : Hid _ := fun (_ : Unit) => newLengths_any N S rs a c W2 hok ((hR.keep hBw2).mono (by omega))
  obtain ⟨gt, tc, rfl, hgt1, hgt2⟩ := row_at hT.row (by omega)
  go_wp2_with (go_at_call 71; refine (H71.out ()).mono ?_; rintro e W3 ⟨L, vs, fo, rfl, hLge, hLBo, hf0, hf1, hkw, hmi, hrd, hb3⟩)
  obtain ⟨f, hLB, hfe, hfz⟩ := hLBo.cut
  rw [← hfe 0 (by omega)] at hf0 hkw
  rw [← hfe 1 (by omega)] at hf1 hmi
  replace hrd := fun m (hm : m ≤ 512) => (hfe (2 + m) (by omega)).trans (hrd m hm)
  clear hLBo hfe
  have hI0 := SI.start hok hf0 hf1 hkw hmi
  have hM0 : HM w W1 W2 SB L N [.int .i64 (N : Int), .int .i64 S, .slice a rs.length c] sh vs f W3 := ⟨hBw2.trans (hb3.mono (by omega)), by have := hLB.lt; omega, row_belowB (row_below hsh hb2) hb3 (fun g hg => by have : SB = g := by { simpa [Value.ownBlock] using hg }; omega), fun b _ hb => hb3.block b hb, hLB⟩
  have hd0 : ∀ x, x < N → sh.getD x 0 = shOf so dn x := fun x hx => by rw [hshv x hx]; rfl
  have hfl0 : ∀ i, (f i).length ≤ 16384 + dc dn N * 655360 := fun i => by
    by_cases hi : 515 ≤ i
    · rw [hfz i hi]; exact Nat.zero_le _
    rcases Nat.lt_or_ge i 2 with h | h
    · have : i = 0 ∨ i = 1 := by omega
      rcases this with rfl | rfl <;> omega
    · have := hrd (i - 2) (by omega)
      rw [show 2 + (i - 2) = i by omega] at this
      rw [this]
      have := rd0_len rs (i - 2) rs.length
      omega
  have hwSB : w.heap.size ≤ SB := by omega
  have hul := fun x => usr_len rs x hok.rhs rs.length
  clear hfz hW0 hs0 hB0 c0 c1 c2 d0 d1 d2 f0 f1 f2 H69 H70 H71 hb1 hsh hshv hBw1 hBw2 hb2 hb3 hLB hkw hmi hSB hf0 hf1
  go_loopw [17] (fun nv W => ∃ (n : Nat) (sh : List Int) (d : Nat → Option Nat) (vs : List Value) (f ready : Nat → List Nat), n ≤ 513 ∧ nv = .int .i64 n ∧ HM w W1 W2 SB L N [.int .i64 (N : Int), .int .i64 S, .slice a rs.length c] sh vs f W ∧ SI N rs d (f 0) (f 1) ready n 0 ∧ (sh.length = N ∧ ∀ x, x < N → sh.getD x 0 = shOf so d x) ∧ (∀ m, m ≤ 512 → f (2 + m) = ready m) ∧ ∀ i, (f i).length ≤ 16384 + dc d N * 655360) (fun nv _ => 513 - (intOf nv).toNat)
  case atStart => exact ⟨0, sh, dn, vs, f, _, by omega, rfl, hM0, hI0, ⟨hshl, hd0⟩, hrd, hfl0⟩
  case round =>
    clear hM0 hI0 hshl hd0 hrd hfl0
    obtain ⟨n, sh, d, vs, f, ready, hn, rfl, hM, hI, ⟨hshl, hshd⟩, hrd, hfl⟩ := hrel
    by_cases hlt : n < 513
    · have hnI : (n : Int) < 513 := by omega
      go_wp2
      go_loopw [7] (fun iv W => ∃ (i : Nat) (sh : List Int) (d : Nat → Option Nat) (vs : List Value) (f ready : Nat → List Nat), iv = .int .i64 i ∧ i ≤ (ready n).length ∧ HM w W1 W2 SB L N [.int .i64 (N : Int), .int .i64 S, .slice a rs.length c] sh vs f W ∧ SI N rs d (f 0) (f 1) ready n i ∧ (sh.length = N ∧ ∀ x, x < N → sh.getD x 0 = shOf so d x) ∧ (∀ m, m ≤ 512 → f (2 + m) = ready m) ∧ ∀ i, (f i).length ≤ 16384 + dc d N * 655360) (fun iv _ => MX + 1 - (intOf iv).toNat)
      case atStart => exact ⟨0, sh, d, vs, f, ready, rfl, Nat.zero_le _, hM, hI, ⟨hshl, hshd⟩, hrd, hfl⟩
      case round =>
        clear hM hI hshl hshd hrd hfl
        obtain ⟨i, sh, d, vs, f, ready, rfl, hile, hM, hI, ⟨hshl, hshd⟩, hrd, hfl⟩ := hrel
        have hszM := hM.siz
        have hdcl := dc_le d N
        obtain ⟨v, hv⟩ := hM.lb.get (i := 2 + n) (by omega)
        have hcv := hM.lb.cell hv
        rw [show 3 + (2 + n) = 5 + n by omega] at hcv
        have hrow := hM.lb.rows.inner (2 + n) v hv
        have hfn := hfl (2 + n)
        rw [hrd n (by omega)] at hrow hfn
        obtain ⟨va, vc, rfl⟩ := row_slice hrow
        have hbnd : (ready n).length ≤ MX := hMX hfn hdcl hn2
        by_cases hlt2 : i < (ready n).length
        · obtain ⟨x, hx⟩ : ∃ x, (ready n)[i]? = some x := ⟨(ready n)[i], by simp [hlt2]⟩
          have hxr := hI.rdy n x (List.mem_of_getElem? hx)
          have hxN := hxr.1
          obtain ⟨ga, rfl, _, hgal, hcx⟩ := ints_cell hrow hx
          have hcs := z_cell hM.sh hxN
          have hfzs := hM.sh.frozenAt x
          rw [hshd x hxN] at hcs
          have hxI : (x : Int) < N := by omega
          have hiI : (i : Int) < (ready n).length := by omega
          cases hdx : d x with
          | some v =>
            have hvn := (hI.min x v hdx).1
            have hcs' : wr.cell? ⟨SB, x, none⟩ = some (.int .i64 (v : Int)) := by rw [hcs]; unfold shOf; rw [hdx]
            have hvI : (v : Int) ≤ n := by omega
            have hI2 := hI.skip hx hdx
            clear hcs
            go_wp2
            exact ⟨⟨i + 1, sh, d, vs, f, ready, by go_num, by omega, hM, hI2, ⟨hshl, hshd⟩, hrd, hfl⟩, by simp [intOf]; omega⟩
          | none =>
            have hsox : so.getD x false = true := (hL x).2 (ln_lf.2 ⟨n, hxr.2⟩)
            have hcs' : wr.cell? ⟨SB, x, none⟩ = some (.int .i64 513) := by rw [hcs]; unfold shOf; rw [hdx, hsox]; rfl
            have hvI : decide ((513 : Int) ≤ n) = false := by simp; omega
            have hM2 := hM.put hwSB hSB1 hs2 hLge x (n : Int)
            obtain ⟨X1, hX1⟩ : ∃ X1, wr.setCell ⟨SB, x, none⟩ (.int .i64 (n : Int)) = X1 := ⟨_, rfl⟩
            rw [hX1] at hM2
            obtain ⟨ua, uc, hu1, hu2⟩ := tab_cell2 hT hM2.fr hxN
            have hulx := hul x
            have hJ0 := hI.open_ hx hdx
            have hshd2 := shOf_set (n := n) hshl hxN hshd
            have hdc2 := dc_set (n := n) hdx hxN
            have HD0 : Hid _ := hdc2
            have HBND : Hid _ := hbnd
            clear hcs hdc2 hI hM hrow hbnd hxr hsox
            go_wp2
            clear hcv hcx hiI
            have hulx2 : (usr rs x rs.length).length ≤ 655360 := by omega
            have hnI2 : n ≤ 512 := by omega
            go_loopw [55] (fun uv W => ∃ (u : Nat) (vs : List Value) (f ready : Nat → List Nat), uv = .int .i64 u ∧ u ≤ (usr rs x rs.length).length ∧ HM w W1 W2 SB L N [.int .i64 (N : Int), .int .i64 S, .slice a rs.length c] (sh.set x n) vs f W ∧ SJ N rs d (f 0) (f 1) ready n i x u ∧ (∀ m, m ≤ 512 → f (2 + m) = ready m) ∧ ∀ q, (f q).length ≤ 16384 + dc d N * 655360 + u) (fun uv _ => (usr rs x rs.length).length - (intOf uv).toNat)
            case atStart => exact ⟨0, vs, f, ready, rfl, Nat.zero_le _, hM2, hJ0, hrd, hfl⟩
            case round =>
              clear hM2 hJ0 hrd hfl hfn hu1 hX1
              obtain ⟨u, vs, f, ready, rfl, hule, hM, hJ, hrd, hfl⟩ := hrel
              have hur := row_fr hu2 hM.fr
              by_cases hlt3 : u < (usr rs x rs.length).length
              · obtain ⟨k, hk⟩ : ∃ k, (usr rs x rs.length)[u]? = some k := ⟨(usr rs x rs.length)[u], by simp [hlt3]⟩
                have hkl := usr_mem rs x rs.length k (List.mem_of_getElem? hk)
                obtain ⟨r, hr⟩ : ∃ r, rs[k]? = some r := ⟨rs[k], by simp [hkl]⟩
                obtain ⟨gu, rfl, _, hgul, hcu⟩ := ints_cell hur hk
                have hpos := hJ.pos hok hk hr
                have hkb := hJ.kbound hok hnI2 hr
                obtain ⟨p, hp⟩ : ∃ p, (f 0).getD k 0 = p := ⟨_, rfl⟩
                obtain ⟨q, hq⟩ : ∃ q, (f 1).getD k 0 = q + 1 := ⟨(f 1).getD k 0 - 1, by omega⟩
                obtain ⟨kg, kc, kv1, kv2, kv3, kv4, kv5, kv6⟩ := hM.lb.kcell (i := 0) (by omega) hJ.lk hkl hp
                have hLB2 := hM.lb.put (r := k) (x := p + n) kv1 hJ.lk
                have hM3 := hM.lower hwSB hSB1 hs2 ((Below.refl _ _).setCell (p := ⟨kg, k, none⟩) kv6 _) hLB2
                obtain ⟨X2, hX2⟩ : ∃ X2, wr.setCell ⟨kg, k, none⟩ (.int .i64 ((p : Int) + n)) = X2 := ⟨_, rfl⟩
                rw [show (((p + n : Nat)) : Int) = (p : Int) + n from Int.natCast_add p n, hX2] at hM3 hLB2
                obtain ⟨mg, mc, mv1, mv2, mv3, mv4, mv5, mv6⟩ := hLB2.kcell (i := 1) (by omega) (n := rs.length) (by simpa using hJ.lm) hkl (x := q + 1) (by simpa using hq)
                have hLB3 := hLB2.put (m := 1) (r := k) (x := q) mv1 (by simpa using hJ.lm)
                have hM4 := hM3.lower hwSB hSB1 hs2 ((Below.refl _ _).setCell (p := ⟨mg, k, none⟩) mv6 _) hLB3
                obtain ⟨X3, hX3⟩ : ∃ X3, X2.setCell ⟨mg, k, none⟩ (.int .i64 (q : Int)) = X3 := ⟨_, rfl⟩
                rw [hX3] at hM4
                obtain ⟨f3, hM5, e0, e1, e2, el⟩ : ∃ f3 : Nat → List Nat, HM w W1 W2 SB L N [.int .i64 (N : Int), .int .i64 S, .slice a rs.length c] (sh.set x n) vs f3 X3 ∧ f3 0 = (f 0).set k (p + n) ∧ f3 1 = (f 1).set k q ∧ (∀ m, f3 (2 + m) = f (2 + m)) ∧ ∀ i, (f3 i).length = (f i).length := ⟨_, hM4, by simp, by simp, fun m => by simp [show ¬ (2 + m = 1) by omega], fun i => by by_cases h1 : i = 1 <;> by_cases h0 : i = 0 <;> simp [h0, h1]⟩
                have h72 := look_any N S rs a c (W2.heap.size + 1) L k vs f3 r X3 hok ((hR.keep hM5.bel).mono (by omega)) hLge hM5.siz hr hM5.lb (by rw [el]; exact hJ.lk) (by rw [el]; exact hJ.lm) (fun i => by rw [el]; exact bnd_three (hfl i) (Nat.le_trans hdcl hn2) (Nat.le_trans hule hulx2)) (by rw [e0, getD_set_nat _ _ _ _ (by rw [hJ.lk]; exact hkl), if_pos rfl]; omega)
                obtain ⟨fN, hfN⟩ : ∃ fN : Nat → List Nat, fN = if (f3 1).getD k 0 = 0 ∧ (f3 0).getD k 0 ≤ 512 then (fun i => if i = 2 + (f3 0).getD k 0 then f3 i ++ [r.lhs.toNat] else f3 i) else f3 := ⟨_, rfl⟩
                rw [← hfN] at h72
                have H72 : Hid _ := fun (_ : Unit) => h72
                have HJ2 : Hid _ := hJ.look hok hk hr hp hq e0 e1 e2 el hrd hfl hfN
                have HM5 : Hid _ := hM5
                have mv3' : X2.cell? ⟨mg, k, none⟩ = some (.int .i64 ((q : Int) + 1)) := mv3
                have kv3' : wr.cell? ⟨kg, k, none⟩ = some (.int .i64 (p : Int)) := kv3
                have kv2' : wr.cell? ⟨L, 3, none⟩ = some (.slice (some ⟨kg, 0, none⟩) rs.length kc) := kv2
                have mv2' : X2.cell? ⟨L, 4, none⟩ = some (.slice (some ⟨mg, 0, none⟩) rs.length mc) := mv2
                have hkI : (k : Int) < rs.length := by omega
                have huI : (u : Int) < (usr rs x rs.length).length := by omega
                have hkb2 : p ≤ 81920 := by omega
                have hqb : q + 1 ≤ 80 := by
                  have h2 := hJ.hm k r hr
                  have h3 := ms_le d r.rhs
                  have h4 := hok.rhs r (List.mem_of_getElem? hr)
                  omega
                clear hfN h72 hM hM3 hM4 hM5 hLB2 hLB3 e0 e1 e2 el hfl hrd hp hq hJ hk mv3 kv3 kv2 mv2 hpos hkb kv1 mv1 hr hur
                go_wp2_with (go_at_call 72; refine (H72.out ()).mono ?_)
                rintro e W5 ⟨rfl, ⟨vs', hLB5⟩, hb5⟩
                go_wp2
                obtain ⟨ready', hJ3, hrd3, hfl3⟩ := HJ2.out
                exact ⟨⟨u + 1, vs', fN, ready', by go_num, by omega, HM5.out.lower hwSB hSB1 hs2 hb5 hLB5, hJ3, hrd3, hfl3⟩, by simp [intOf]; omega⟩
              · have hI2 := hJ.shut hok (by omega)
                have hii := (List.getElem?_eq_some_iff.1 hJ.at_).1
                have HB2 : Hid (∀ q, (f q).length ≤ 16384 + dc (dset d x n) N * 655360) := fun q => bnd_two (hfl q) (Nat.le_trans hule hulx2) HD0.out
                have huI : decide ((u : Int) < (usr rs x rs.length).length) = false := by simp; omega
                have HBN : (ready n).length ≤ MX := by
                  have h := HB2.out (2 + n)
                  rw [hrd n hnI2] at h
                  exact hMX h (dc_le _ N) hn2
                clear hfl hJ
                go_wp2
                exact ⟨⟨i + 1, sh.set x n, dset d x n, vs, f, ready, by go_num, hii, hM, hI2, ⟨by simp [hshl], hshd2⟩, hrd, HB2.out⟩, by simp [intOf]; omega⟩
        · have hI2 := hI.next hok (by omega) (by omega)
          have hiI : decide ((i : Int) < (ready n).length) = false := by simp; omega
          go_wp2
          exact ⟨⟨n + 1, sh, d, vs, f, ready, by omega, by go_num, hM, hI2, ⟨hshl, hshd⟩, hrd, hfl⟩, by simp [intOf]; omega⟩
    · obtain rfl : n = 513 := by omega
      have hS := hI.done hL hshl hshd
      go_wp2
      go_ret
      exact ⟨⟨_, rfl, sh, row_mono hM.sh hwSB, hS⟩, hM.bel⟩
end Go.Proofs.Ytopbibhpekjaeaa
