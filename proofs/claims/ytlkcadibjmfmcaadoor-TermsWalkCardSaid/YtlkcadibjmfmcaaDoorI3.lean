/- Going through a term's parts: the iterator keeps its promise. -/
import Derived.Test.YtlkcadibjmfmcaaDoorI2
import Derived.RangeFuncBound
import Derived.RangeFuncCalls
import Derived.RangeFuncLeaves
import Derived.RangeFuncBox
import Derived.Shelf.Abstract
import Derived.Shelf.RegionOpen
import Derived.OwnWalkIn
import Derived.TacticsInMore
import Derived.LoopNIn
import Derived.LoopIn
import Derived.Maps.AppendAt
import Derived.BigQuiet
import Derived.Deep.QuietTactic
import Derived.Sort.QuietIn
namespace Go.Proofs.YtlkcadibjmfmcaaDoor
open Go.RowKit Go.Shelf

attribute [local go_sem] Oper.semAt_some

structure Px where
  b : Nat
  o : Nat
  deep : Nat
  doc : Tm
def Px.enc (x : Px) : Array Value := #[.pointer (some ⟨x.b, x.o, none⟩), .int .i64 (x.deep : Int)]
def Px.say (x : Px) : Tm × Nat := (x.doc, x.deep)
/-- Parts as they are told: they lie where it is said. -/
def Told (w : World) (n₀ f : Nat) (xs : List Px) : Prop := ∀ x ∈ xs, TermAt w n₀ f x.b x.o x.doc

set_option maxHeartbeats 400000 in
theorem ofTerm_any (b o : Nat) (w : World) : Calls Tryd.prog 36 #[.pointer (some ⟨b, o, none⟩)] w fun e w' => e = .returned (.pointer (some ⟨b, o + 3, none⟩)) ∧ w' = w := by
  go_enter Tryd.func36, Tryd.ntmps36
  go_wp2
  go_ret
  exact ⟨rfl, rfl⟩
theorem infoRow : (Tryd.prog.info? 86).map (fun i => (i.zero, i.size, i.bytes)) = some (some (.agg #[.slice none 0 0, .int .i64 0]), 2, 32) := by kernel_rfl
theorem least_ex {p : Nat → Prop} : ∀ n, p n → ∃ k, p k ∧ ∀ k', p k' → k ≤ k' := by
  intro n
  induction n using Nat.strongRecOn with
  | ind n ih =>
    intro hn
    rcases Classical.em (∃ m, m < n ∧ p m) with ⟨m, hm, hp⟩ | h
    · exact ih m hm hp
    · exact ⟨n, hn, fun k' hk' => Nat.le_of_not_lt fun hlt => h ⟨k', hlt, hk'⟩⟩
open Classical in
/-- The least number that is so. -/
noncomputable def least (p : Nat → Prop) : Nat := if h : ∃ k, p k ∧ ∀ k', p k' → k ≤ k' then Classical.choose h else 0
theorem least_spec {p : Nat → Prop} {k : Nat} (h : p k) : p (least p) := by
  unfold least
  rw [dif_pos (least_ex k h)]
  exact (Classical.choose_spec (least_ex k h)).1
theorem least_le {p : Nat → Prop} {k : Nat} (h : p k) : least p ≤ k := by
  unfold least
  rw [dif_pos (least_ex k h)]
  exact (Classical.choose_spec (least_ex k h)).2 k h
/-- What is so when the next part is told: k parts are still to come. -/
structure PI (W : World) (n₀ f B2 : Nat) (A0 : Nat → Prop) (d : Tm) (J : (Nat → Prop) → List Px → World → Prop) (A : Nat → Prop) (xs : List Px) (x : Px) (R : List (List Tm × Nat)) (cs : List Value) (k : Nat) (rv : Value) (wr : World) : Prop where
  j : J A xs wr
  a2 : A B2
  ao : ∀ g, rv.ownBlock = some g → A g
  al : ∀ b, A b → b < wr.heap.size
  bel : Below n₀ W wr
  c2 : wr.cell? ⟨B2, 0, none⟩ = some (.func (.func 36) #[] #[])
  rs : RS W wr W.heap.size n₀ f rv R cs
  told : Told W n₀ f (xs ++ [x])
  eq : xs.map Px.say ++ ((x.doc, x.deep) :: preL x.doc.kids (x.deep + 1)) ++ restR R = pre d 1
  dx : x.deep ≤ xs.length + 1
  dr : ∀ p ∈ R, p.2 ≤ xs.length + 1
  rest : (preL x.doc.kids (x.deep + 1) ++ restR R).length = k

def PE (W : World) (n₀ f B2 : Nat) (A0 : Nat → Prop) (d : Tm) (J : (Nat → Prop) → List Px → World → Prop) (rv pv dv : Value) (wr : World) (k : Nat) : Prop :=
  ∃ A xs x R cs, pv = .pointer (some ⟨(x : Px).b, x.o, none⟩) ∧ dv = .int .i64 (x.deep : Int) ∧ PI W n₀ f B2 A0 d J A xs x R cs k rv wr
theorem PI.next {W : World} {n₀ f B2 : Nat} {A0 : Nat → Prop} {d : Tm} {J : (Nat → Prop) → List Px → World → Prop} {A : Nat → Prop} {xs : List Px} {x : Px} {R : List (List Tm × Nat)} {cs : List Value} {rv : Value} {w' V V5 : World} {g : Nat}
    (hJ : Stays J) (hj : J A xs w') (a2 : A B2) (ag : A g) (al : ∀ b, A b → b < w'.heap.size) (hbel : Below n₀ W w') (hn₀ : n₀ ≤ W.heap.size) (hB2 : B2 < W.heap.size) (hgi : W.heap.size ≤ g) (c2 : w'.cell? ⟨B2, 0, none⟩ = some (.func (.func 36) #[] #[]))
    (hg1 : w'.grownBy V none) (hg2 : V.grownBy V5 (some g)) (hrs : RS W V5 W.heap.size n₀ f rv R cs) (hown : rv.ownBlock = some g) (told : Told W n₀ f (xs ++ [x])) (heq : xs.map Px.say ++ ((x.doc, x.deep) :: preL x.doc.kids (x.deep + 1)) ++ restR R = pre d 1) (dx : x.deep ≤ xs.length + 1) (dr : ∀ p ∈ R, p.2 ≤ xs.length + 1) :
    PE W n₀ f B2 A0 d J rv (.pointer (some ⟨x.b, x.o, none⟩)) (.int .i64 (x.deep : Int)) V5 (preL x.doc.kids (x.deep + 1) ++ restR R).length := by
  have s1 := hg1.size
  have s2 := hg2.size
  have hbs := hbel.size
  have hi : Iter A w' V5 := ⟨hg2.os.trans hg1.os, hg2.tape.trans hg1.tape, hg2.output.trans hg1.output, by omega, fun b hb hA => (hg2.block b (by omega) (fun e => by cases e; exact hA ag)).trans (hg1.block b hb (by simp))⟩
  refine ⟨A, xs, x, R, cs, rfl, rfl, ⟨hJ A A xs w' V5 hj hi (fun b hb => .inl hb), a2, fun g' hg' => ?_, fun b hb => by have := al b hb; omega, ⟨hi.os.trans hbel.os, hi.tape.trans hbel.tape, hi.output.trans hbel.output, by omega, fun b hb => ?_⟩, ?_, hrs, told, heq, dx, dr, rfl⟩⟩
  · rw [hown] at hg'; cases hg'; exact ag
  · exact ((hg2.block b (by omega) (fun e => by cases e; omega)).trans (hg1.block b (by omega) (by simp))).trans (hbel.block b hb)
  · exact (World.cell?_of_block (a := ⟨B2, 0, none⟩) ((hg2.block B2 (by omega) (fun e => by cases e; omega)).trans (hg1.block B2 (by omega) (by simp)))).trans c2
set_option maxRecDepth 100000 in
set_option maxHeartbeats 4000000 in
theorem parts1_in (n : Nat) (hn : 1 ≤ n) (l B1 B2 n₀ f b0 o0 : Nat) (d : Tm) (A0 : Nat → Prop) (J Jx : (Nat → Prop) → List Px → World → Prop) (W : World) (hn₀ : n₀ ≤ W.heap.size) (hJ : Stays J) (hd : TermAt W n₀ f b0 o0 d) (hlen : (pre d 1).length ≤ 1000000000000)
    (hA2 : A0 B2) (hlt : ∀ b, A0 b → b < W.heap.size)
    (hY : ∀ A ps x W1, J A ps W1 → ps.length < 1000000000000 → TermAt W n₀ f x.b x.o x.doc → (∃ r, ps.map Px.say ++ x.say :: r = pre d 1) → YieldAt Fence.wide (n - 1) Tryd.prog l (Px.enc x) W1 fun e W' =>
      (e = .returned (.bool true) ∧ J A (ps ++ [x]) W' ∧ Keep n₀ A W1 W') ∨ (e = .returned (.bool false) ∧ Jx A (ps ++ [x]) W'))
    (c1 : W.cell? ⟨B1, 0, none⟩ = some (.pointer (some ⟨b0, o0, none⟩))) (c2 : W.cell? ⟨B2, 0, none⟩ = some (.func (.func 36) #[] #[])) (h0 : J A0 [] W) :
    CallsIn Fence.wide n Tryd.prog 56 #[.func (.yield l) #[] #[], .pointer (some ⟨B1, 0, none⟩), .pointer (some ⟨B2, 0, none⟩)] W fun e W' => (∃ v, e = .returned v) ∧
      ((∃ A xs, (xs.map Px.say = pre d 1 ∧ Told W n₀ f xs) ∧ J A xs W') ∨ (∃ A xs, ((∃ r, xs.map Px.say ++ r = pre d 1) ∧ Told W n₀ f xs) ∧ Jx A xs W')) := by
  obtain ⟨i0, hi0, hz0, hz1, hz2⟩ := info_parts infoRow
  refine callsIn_of_wp Tryd.func56 rfl trivial ?_ rfl
  simp only [Tryd.ntmps56, List.size_toArray, List.length_cons, List.length_nil, Nat.reduceAdd, Nat.reduceSub, Array.replicate_succ, Array.replicate_zero, List.push_toArray, List.append_toArray, List.nil_append, List.cons_append]
  gi_wp2
  gi_loopw [4, 5, 6] (fun rv pv dv wr => ∃ k, PE W n₀ f B2 A0 d J rv pv dv wr k) (fun rv pv dv wr => least (PE W n₀ f B2 A0 d J rv pv dv wr))
  case atStart =>
    refine ⟨_, A0, [], ⟨b0, o0, 1, d⟩, [], [], rfl, rfl, ⟨h0, hA2, fun g hg => (by cases hg), hlt, Below.refl _ _, c2, RS.nil _ _ _ _ _, fun y hy => ?_, ?_, (by simp), fun p hp => (by cases hp), rfl⟩⟩
    · simp at hy; subst hy; exact hd
    · rw [restR_nil]; simp [pre_eq]
  case round =>
    obtain ⟨k1, hk1⟩ := hrel
    obtain ⟨A, xs, x, R, cs, rfl, rfl, hP⟩ := least_spec hk1
    clear hk1
    generalize hkk : least (PE W n₀ f B2 A0 d J _ _ _ _) = k at hP
    have HKK : Hid _ := hkk
    clear hkk
    have hB2 := hlt B2 hA2
    have hxl : xs.length < 1000000000000 := by
      have := congrArg List.length hP.eq
      simp at this
      omega
    obtain ⟨fn, tmps, assign, body, hy0, hR⟩ := hY A xs x wr hP.j hxl (hP.told x (by simp)) ⟨preL x.doc.kids (x.deep + 1) ++ restR R, by rw [← hP.eq]; simp [Px.say]⟩
    have hy : (Instr.yield l #[.pointer (some ⟨x.b, x.o, none⟩), .int .i64 (x.deep : Int)]).run Tryd.prog wr = .ok (.round l fn tmps assign body) wr := hy0
    clear hy0
    gi_wp2
    refine hR.mono ?_
    rintro e W3 (⟨rfl, hJ3, hK3⟩ | ⟨rfl, hJx3⟩)
    · have hB3 : Below n₀ W W3 := hP.bel.trans hK3.1
      have c23 : W3.cell? ⟨B2, 0, none⟩ = some (.func (.func 36) #[] #[]) := (World.cell?_of_block (a := ⟨B2, 0, none⟩) (hK3.2 B2 hP.a2 (hP.al B2 hP.a2))).trans hP.c2
      have hrs3 := hP.rs.move (fun g hg => hK3.2 g (hP.ao g hg) (hP.al g (hP.ao g hg)))
      have hdW := hP.told x (by simp)
      have HDW : Hid _ := hdW
      obtain ⟨hbx, sa, sc, e0, e1, e2, e3, hsc, hk3⟩ := hdW.keep hB3
      have HO : Hid _ := fun b o w => ofTerm_any b o w
      have hdl := hk3.len
      have hs3 := hB3.size
      have HJ3 : Hid _ := hJ3
      have HT : Hid _ := hP.told
      have HA : Hid (∀ g, (_ : Value).ownBlock = some g → A g) := hP.ao
      have HAl : Hid (∀ b, A b → b < W3.heap.size) := fun b hb => Nat.lt_of_lt_of_le (hP.al b hb) hK3.1.size
      have HA2 : Hid _ := hP.a2
      have heq := hP.eq
      have hdx := hP.dx
      have hdr := hP.dr
      have hrst := hP.rest
      clear hP hK3 hR hy hJ3 hY
      by_cases hkids : x.doc.kids = []
      · rw [hkids] at e3 heq hrst
        have e3' : W3.cell? ⟨x.b, x.o + 3, none⟩ = some (.slice sa 0 sc) := e3
        clear e3 hkids hsc hk3 hdl
        rcases List.eq_nil_or_concat R with rfl | ⟨R2, ⟨l, m⟩, hRR⟩
        · obtain ⟨a4, c4, rfl⟩ := row_slice hrs3.row
          have hall : (xs ++ [x]).map Px.say = pre d 1 := by rw [← heq]; simp [Px.say, preL, restR_nil]
          clear hrs3 heq hrst hdr
          gi_wp2_with (refine ⟨trivial, ?_⟩; gi_at_call 36; refine (callsIn_wide.2 (HO.out _ _ _)).mono ?_; rintro e w' ⟨rfl, rfl⟩)
          first | go_end0 | refine bodyPost_ret (results_none rfl _ _ _) rfl ?_
          exact ⟨⟨_, rfl⟩, .inl ⟨A, xs ++ [x], ⟨hall, HT.out⟩, HJ3.out⟩⟩
        · rw [List.concat_eq_append] at hRR
          subst hRR
          have hrs := hrs3
          have HJ' : Hid (J A (xs ++ [x]) W3) := HJ3.out
          have HA' := HA
          have HAl' := HAl
          have HA2' := HA2
          have heq' : (xs.map Px.say ++ [(x.doc, x.deep)]) ++ (preL l m ++ restR R2) = pre d 1 := by rw [← heq, restR_snoc]; simp [preL]
          have hrst' : (preL l m ++ restR R2).length = k := by rw [← hrst, restR_snoc]; simp [preL]
          have hRl : R2.length + 1 ≤ 1000000000000 := by
            have h1 := restR_len _ hrs.ne
            have h2 := congrArg List.length heq
            simp at h1 h2
            omega
          have hm : m ≤ xs.length + 2 := by have := hdr (l, m) (by simp); omega
          have hdr' : ∀ p ∈ R2, p.2 ≤ xs.length + 2 := fun p hp => by have := hdr p (by simp [hp]); omega
          clear hrs3 heq hrst hdr HJ3 HA HAl HA2
          obtain ⟨g, cap, b, o, sc2, d0, l', hrv, hgi, hgs, hcap, rfl, hsc2, t0, t1, tf, hdoc, hl56, hnab⟩ := hrs.top
          subst hrv
          have HG : Hid _ := HA'.out g rfl
          have hsb : IntKind.i64.wrap (((R2.length + 1 : Nat) : Int) - 1) = (R2.length : Int) := by rw [IntKind.wrap_i64]; omega
          have hR2 : (R2.length : Int) < ((R2.length + 1 : Nat) : Int) := by omega
          have HNn : Hid _ := fun nq => hnab (W3.drewN nq) rfl
          have HTo : Hid (Told W n₀ f ((xs ++ [x]) ++ [⟨b, o, m, d0⟩])) := fun y hy => by
            rcases List.mem_append.1 hy with h | h
            · exact HT.out y h
            · simp at h; subst h; exact hdoc
          have hz9 : (((R2.length : Int) + 1) == 0) = false := by simp; omega
          clear hnab hdoc hrs HT
          gi_wp2_with (refine ⟨trivial, ?_⟩; gi_at_call 36; refine (callsIn_wide.2 (HO.out _ _ _)).mono ?_; rintro e w' ⟨rfl, rfl⟩)
          gi_quiet (fail)
          obtain ⟨V, hV⟩ : ∃ V, w'.drewN nq = V := ⟨_, rfl⟩
          have v0 : V.cell? ⟨g, R2.length * 2, none⟩ = some (.slice (some ⟨b, o, none⟩) (l'.length + 1) sc2) := by rw [← hV]; exact t0
          have vf : V.frozen? ⟨g, R2.length * 2, none⟩ = false := by rw [← hV]; exact tf
          have HV : Hid (w'.grownBy V none) := by rw [← hV]; exact ⟨rfl, rfl, rfl, Nat.le_refl _, fun _ _ _ => rfl⟩
          have HN1 : Hid (∀ u, V.grownBy (V.setCell ⟨g, R2.length * 2, none⟩ u) (some g) ∧ ∃ cs', RS W (V.setCell ⟨g, R2.length * 2, none⟩ u) W.heap.size n₀ f (.slice (some ⟨g, 0, none⟩) R2.length cap) R2 cs') := by rw [← hV]; exact (HNn.out nq).1
          have HN2 : Hid (l' ≠ [] → ∃ cs', RS W (V.setCell ⟨g, R2.length * 2, none⟩ (.slice (some ⟨b, o + 4, none⟩) l'.length (sc2 - 1))) W.heap.size n₀ f (.slice (some ⟨g, 0, none⟩) (R2.length + 1) cap) (R2 ++ [(l', m)]) cs') := by rw [← hV]; exact (HNn.out nq).2
          rw [hV]
          clear t0 t1 tf hV e0 e1 e2 HNn
          have hgs' : g < V.heap.size := Nat.lt_of_lt_of_le hgs HV.out.size
          cases l' with
          | nil =>
            gi_wp2
            obtain ⟨hg2, cs', hrs'⟩ := HN1.out (.slice (if sc2 = 1 then some ⟨b, o, none⟩ else some ⟨b, o + 4, none⟩) 0 (sc2 - 1))
            have hfin := PI.next (A0 := A0) (x := ⟨b, o, m, d0⟩) hJ HJ'.out HA2'.out HG.out HAl'.out hB3 hn₀ hB2 hgi c23 HV.out hg2 hrs' rfl HTo.out (by rw [← heq']; simp [preL, pre_eq, Px.say]) (by simp; omega) (fun p hp => by have := hdr' p hp; simp; omega)
            refine ⟨⟨_, hfin⟩, ?_⟩
            rw [HKK.out]
            refine Nat.lt_of_le_of_lt (least_le hfin) ?_
            rw [← hrst']; simp [preL, pre_eq]
          | cons d1 l2 =>
            have hsc1 : ¬ sc2 = 1 := by simp at hsc2; omega
            obtain ⟨cs', hrs'⟩ := HN2.out (by simp)
            have hg2 := (HN1.out (.slice (some ⟨b, o + 4, none⟩) (d1 :: l2).length (sc2 - 1))).1
            have hfin := PI.next (A0 := A0) (x := ⟨b, o, m, d0⟩) hJ HJ'.out HA2'.out HG.out HAl'.out hB3 hn₀ hB2 hgi c23 HV.out hg2 hrs' rfl HTo.out (by rw [← heq', restR_snoc]; simp [preL, pre_eq, Px.say]) (by simp; omega) (fun p hp => by
              rcases List.mem_append.1 hp with h | h
              · have := hdr' p h; simp; omega
              · simp at h; subst h; simp; omega)
            have HF : Hid _ := hfin
            clear hfin hg2 hrs'
            gi_wp2
            refine ⟨⟨_, HF.out⟩, ?_⟩
            rw [HKK.out]
            refine Nat.lt_of_le_of_lt (least_le HF.out) ?_
            rw [← hrst', restR_snoc]; simp [preL, pre_eq]
      · have hk0 : 0 < x.doc.kids.length := by
          cases hx : x.doc.kids with
          | nil => exact absurd hx hkids
          | cons _ _ => simp
        have hk0I : ((0 : Int) < (x.doc.kids.length : Int)) := by omega
        have hRl : R.length + 1 ≤ 1000000000000 := by
          have h1 := restR_len _ hrs3.ne
          have h2 := congrArg List.length heq
          have h3 := preL_pos hkids (x.deep + 1)
          simp at h1 h2
          omega
        have hrow := hrs3.row
        have hcells : Hid (∀ (w : World) j u, [Value.slice sa x.doc.kids.length sc, .int .i64 ((x.deep : Int) + 1)][j]? = some u → (w.alloc (.cells #[.slice sa x.doc.kids.length sc, .int .i64 ((x.deep : Int) + 1)] 86)).cell? ((⟨w.heap.size, 0, none⟩ : Addr).add j) = some u) := fun w j u hu => by
          have hadd : (⟨w.heap.size, 0, none⟩ : Addr).add j = ⟨w.heap.size, j, none⟩ := by unfold Addr.add; split <;> simp_all
          rw [hadd, World.cell?_alloc_at _ _ _ _ rfl]; simpa using hu
        gi_wp2_with (first | (refine ⟨trivial, ?_⟩; gi_at_call 36; refine (callsIn_wide.2 (HO.out _ _ _)).mono ?_; rintro e w' ⟨rfl, rfl⟩) | (gi_at_builtin; refine wpListIn_append_own_at _ rfl _ _ 84 rfl W.heap.size 86 i0 _ 2 32 Tryd.underlying84 hi0 hz0 hz1 hz2 rfl (by decide) _ _ _ rfl (hrow.alloc _) ⟨_, 0, none⟩ 1 1 [.slice sa x.doc.kids.length sc, .int .i64 ((x.deep : Int) + 1)] rfl rfl (hcells.out _) (by intro u hu; simp at hu; rcases hu with rfl | rfl <;> rfl) (by unfold maxLen; omega) (by omega) (by simp; omega) ?_))
        intro v' w4 hown hgrow _ hat
        obtain ⟨_, sa', sc', _, _, _, q3, _, hdk⟩ := HDW.out
        have hsa : sa' = sa := by
          have := ((hB3.cell (p := ⟨x.b, x.o + 3, none⟩) hbx).trans q3).symm.trans e3
          simpa using (Value.slice.inj (Option.some.inj this)).1
        rw [hsa] at hdk
        clear q3 hsa
        have hgr := (World.grownBy_alloc w' (.cells #[.slice sa x.doc.kids.length sc, .int .i64 ((x.deep : Int) + 1)] 86) _).trans hgrow
        have hs4 := hgr.size
        have hrs : RS W w4 W.heap.size n₀ f v' (R ++ [(x.doc.kids, x.deep + 1)]) _ := hrs3.push (m := x.deep + 1) hkids hdk hsc (by push_cast; exact hown)
        have hnew : ∀ g, v'.ownBlock = some g → A g ∨ (w'.heap.size ≤ g ∧ g < w4.heap.size) := fun g hg => by
          rcases hat with h | h
          · exact .inl (HA.out g (by rw [← h]; exact hg))
          · rw [h] at hg
            simp at hg
            have := hgrow.size
            simp at this
            have hlt4 := (hrs.row.lt g (by rw [h]; simp [hg])).2
            exact .inr ⟨by omega, hlt4⟩
        have hit : Iter A w' w4 := Iter.of_grown hgr (fun b hb => HA.out b hb)
        obtain ⟨A', hA'⟩ : ∃ A' : Nat → Prop, A' = fun b => b = B2 ∨ v'.ownBlock = some b := ⟨_, rfl⟩
        have HJ' : Hid (J A' (xs ++ [x]) w4) := hJ A A' _ _ _ HJ3.out hit (fun b hb => by
          rw [hA'] at hb
          rcases hb with rfl | hb
          · exact .inl HA2.out
          · exact hnew b hb)
        have HA' : Hid (∀ g, v'.ownBlock = some g → A' g) := fun g hg => by rw [hA']; exact .inr hg
        have HA2' : Hid (A' B2) := by show A' B2; rw [hA']; exact .inl rfl
        have HAl' : Hid (∀ b, A' b → b < w4.heap.size) := fun b hb => by
          rw [hA'] at hb
          rcases hb with rfl | hb
          · have := HAl.out _ HA2.out; omega
          · exact (hrs.row.lt b hb).2
        have hlo : ∀ g, (_ : Value).ownBlock = some g → W.heap.size ≤ g := fun g hg => (hrs3.row.lt g hg).1
        have hB4 : Below n₀ W w4 := ⟨hgr.os.trans hB3.os, hgr.tape.trans hB3.tape, hgr.output.trans hB3.output, by omega, fun b hb => (hgr.block b (by omega) (fun e => by have := hlo b e.symm; omega)).trans (hB3.block b hb)⟩
        have c24 : w4.cell? ⟨B2, 0, none⟩ = some (.func (.func 36) #[] #[]) := (World.cell?_of_block (a := ⟨B2, 0, none⟩) (hgr.block B2 (by omega) (fun e => by have := hlo B2 e.symm; omega))).trans c23
        obtain ⟨R2, hR2e⟩ : ∃ R2, R = R2 := ⟨_, rfl⟩
        obtain ⟨m, hm0⟩ : ∃ m, x.deep + 1 = m := ⟨_, rfl⟩
        obtain ⟨l9, hl9⟩ : ∃ l9, x.doc.kids = l9 := ⟨_, rfl⟩
        have heq' : (xs.map Px.say ++ [(x.doc, x.deep)]) ++ (preL x.doc.kids m ++ restR R2) = pre d 1 := by rw [← heq, ← hm0, ← hR2e]; simp
        have hrst' : (preL x.doc.kids m ++ restR R2).length = k := by rw [← hrst, ← hm0, ← hR2e]
        have hm : m ≤ xs.length + 2 := by omega
        have hdr' : ∀ p ∈ R2, p.2 ≤ xs.length + 2 := fun p hp => by have := hdr p (by rw [hR2e]; exact hp); omega
        rw [hm0, hR2e] at hrs
        rw [hR2e] at hRl
        clear hrs3 heq hrst hdr HJ3 HA HAl HA2 hown hgrow hat hgr hnew hit hA' hlo hB3 c23 e0 e1 e2 e3 hk3 hrow hcells hR2e HDW hdW hdk
        rw [hl9] at hrs heq' hrst'
        obtain ⟨g, cap, b, o, sc2, d0, l', hrv, hgi, hgs, hcap, hl9', hsc2, t0, t1, tf, hdoc, hl56, hnab⟩ := hrs.top
        subst hrv
        rw [hl9'] at heq' hrst'
        clear hl9' hl9
        have HG : Hid _ := HA'.out g rfl
        have hsb : IntKind.i64.wrap (((R2.length + 1 : Nat) : Int) - 1) = (R2.length : Int) := by rw [IntKind.wrap_i64]; omega
        have hR2 : (R2.length : Int) < ((R2.length + 1 : Nat) : Int) := by omega
        have HNn : Hid _ := fun nq => hnab (w4.drewN nq) rfl
        have HTo : Hid (Told W n₀ f ((xs ++ [x]) ++ [⟨b, o, m, d0⟩])) := fun y hy => by
          rcases List.mem_append.1 hy with h | h
          · exact HT.out y h
          · simp at h; subst h; exact hdoc
        have hz9 : (((R2.length : Int) + 1) == 0) = false := by simp; omega
        clear hnab hdoc hrs HT
        gi_wp2
        gi_quiet (fail)
        obtain ⟨V, hV⟩ : ∃ V, w4.drewN nq = V := ⟨_, rfl⟩
        have v0 : V.cell? ⟨g, R2.length * 2, none⟩ = some (.slice (some ⟨b, o, none⟩) (l'.length + 1) sc2) := by rw [← hV]; exact t0
        have vf : V.frozen? ⟨g, R2.length * 2, none⟩ = false := by rw [← hV]; exact tf
        have HV : Hid (w4.grownBy V none) := by rw [← hV]; exact ⟨rfl, rfl, rfl, Nat.le_refl _, fun _ _ _ => rfl⟩
        have HN1 : Hid (∀ u, V.grownBy (V.setCell ⟨g, R2.length * 2, none⟩ u) (some g) ∧ ∃ cs', RS W (V.setCell ⟨g, R2.length * 2, none⟩ u) W.heap.size n₀ f (.slice (some ⟨g, 0, none⟩) R2.length cap) R2 cs') := by rw [← hV]; exact (HNn.out nq).1
        have HN2 : Hid (l' ≠ [] → ∃ cs', RS W (V.setCell ⟨g, R2.length * 2, none⟩ (.slice (some ⟨b, o + 4, none⟩) l'.length (sc2 - 1))) W.heap.size n₀ f (.slice (some ⟨g, 0, none⟩) (R2.length + 1) cap) (R2 ++ [(l', m)]) cs') := by rw [← hV]; exact (HNn.out nq).2
        rw [hV]
        clear t0 t1 tf hV HNn
        have hgs' : g < V.heap.size := Nat.lt_of_lt_of_le hgs HV.out.size
        cases l' with
        | nil =>
          gi_wp2
          obtain ⟨hg2, cs', hrs'⟩ := HN1.out (.slice (if sc2 = 1 then some ⟨b, o, none⟩ else some ⟨b, o + 4, none⟩) 0 (sc2 - 1))
          have hfin := PI.next (A0 := A0) (x := ⟨b, o, m, d0⟩) hJ HJ'.out HA2'.out HG.out HAl'.out hB4 hn₀ hB2 hgi c24 HV.out hg2 hrs' rfl HTo.out (by rw [← heq']; simp [preL, pre_eq, Px.say]) (by simp; omega) (fun p hp => by have := hdr' p hp; simp; omega)
          refine ⟨⟨_, hfin⟩, ?_⟩
          rw [HKK.out]
          refine Nat.lt_of_le_of_lt (least_le hfin) ?_
          rw [← hrst']; simp [preL, pre_eq]
        | cons d1 l2 =>
          have hsc1 : ¬ sc2 = 1 := by simp at hsc2; omega
          obtain ⟨cs', hrs'⟩ := HN2.out (by simp)
          have hg2 := (HN1.out (.slice (some ⟨b, o + 4, none⟩) (d1 :: l2).length (sc2 - 1))).1
          have hfin := PI.next (A0 := A0) (x := ⟨b, o, m, d0⟩) hJ HJ'.out HA2'.out HG.out HAl'.out hB4 hn₀ hB2 hgi c24 HV.out hg2 hrs' rfl HTo.out (by rw [← heq', restR_snoc]; simp [preL, pre_eq, Px.say]) (by simp; omega) (fun p hp => by
            rcases List.mem_append.1 hp with h | h
            · have := hdr' p h; simp; omega
            · simp at h; subst h; simp; omega)
          have HF : Hid _ := hfin
          clear hfin hg2 hrs'
          gi_wp2
          refine ⟨⟨_, HF.out⟩, ?_⟩
          rw [HKK.out]
          refine Nat.lt_of_le_of_lt (least_le HF.out) ?_
          rw [← hrst', restR_snoc]; simp [preL, pre_eq]
    · have HE : Hid (∃ r, (xs ++ [x]).map Px.say ++ r = pre d 1) := ⟨preL x.doc.kids (x.deep + 1) ++ restR R, by rw [← hP.eq]; simp [Px.say]⟩
      have HT : Hid _ := hP.told
      clear hP
      gi_wp2
      go_end0
      exact ⟨⟨_, rfl⟩, .inr ⟨A, xs ++ [x], ⟨HE.out, HT.out⟩, hJx3⟩⟩
end Go.Proofs.YtlkcadibjmfmcaaDoor
