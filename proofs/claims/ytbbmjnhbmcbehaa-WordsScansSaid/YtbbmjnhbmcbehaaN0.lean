/- The words of a text, as plain functions over lists of bytes: spans, texts in quotes, sets, words, the scan. -/
import Derived.Test.YtbbmjnhbmcbehaaX5
namespace Go.Proofs.Ytbbmjnhbmcbehaa
open Go.RowKit

def great (n : Nat) : Bool := decide (65 ≤ n) && decide (n ≤ 90)
def small (n : Nat) : Bool := decide (97 ≤ n) && decide (n ≤ 122)
def digB (n : Nat) : Bool := decide (48 ≤ n) && decide (n ≤ 57)
def alnum (n : Nat) : Bool := great n || small n || digB n
/-- How many bytes at the beginning of a list are so. -/
def lspan (p : Nat → Bool) : List UInt8 → Nat
  | [] => 0
  | c :: l => if p c.toNat then lspan p l + 1 else 0
theorem lspan_le (p : Nat → Bool) : ∀ l, lspan p l ≤ l.length
  | [] => Nat.le_refl _
  | c :: l => by
    have := lspan_le p l
    simp only [lspan, List.length_cons]; split <;> omega
theorem bt_list (x : ByteArray) (i : Nat) : bt x i = (x.data.toList.getD i 0).toNat := by
  unfold bt; simp
theorem list_len (x : ByteArray) : x.data.toList.length = x.size := by simp
theorem drop_at (x : ByteArray) (i : Nat) (h : i < x.size) : x.data.toList.drop i = x[i] :: x.data.toList.drop (i + 1) := by
  have : i < x.data.toList.length := by rw [list_len]; exact h
  rw [List.drop_eq_getElem_cons this]; rfl
theorem drop_end (x : ByteArray) (i : Nat) (h : x.size ≤ i) : x.data.toList.drop i = [] := List.drop_eq_nil_of_le (by rw [list_len]; exact h)
theorem ba_list (x : ByteArray) : x = ⟨x.data.toList.toArray⟩ := by simp
theorem extract_list (x : ByteArray) (a b : Nat) : (x.extract a b).data.toList = (x.data.toList.drop a).take (b - a) := by
  rw [ByteArray.data_extract]; simp
theorem extract_pre (x : ByteArray) (n : Nat) : x.extract 0 n = ⟨(x.data.toList.take n).toArray⟩ := by
  rw [ba_list (x.extract 0 n), extract_list]; simp
theorem extract_post (x : ByteArray) (n : Nat) : (x.extract n x.size).data.toList = x.data.toList.drop n := by
  rw [extract_list, List.take_of_length_le]; simp

/-- The short signs of texts in quotes. -/
def shortq (n : Nat) : Int := Lib.indexByte [110, 116, 114, 34, 92] n.toUInt8
def saidq (i : Nat) : Nat := [10, 9, 13, 34, 92].getD i 0
/-- The sign at the beginning of a list: the byte that it says, and how many bytes it has (0: it is none). -/
def rdq (x : ByteArray) : Nat × Nat :=
  if x.size < 2 ∨ bt x 0 ≠ 92 then (0, 0)
  else if 0 ≤ shortq (bt x 1) then (saidq (shortq (bt x 1)).toNat, 2)
  else if x.size < 4 ∨ bt x 1 ≠ 120 then (0, 0)
  else if dig (bt x 2) < 0 ∨ dig (bt x 3) < 0 then (0, 0)
  else ((dig (bt x 2)).toNat * 16 + (dig (bt x 3)).toNat, 4)
def rdql (l : List UInt8) : Nat × Nat := rdq ⟨l.toArray⟩
def plainq (n : Nat) : Bool := decide (32 ≤ n) && decide (n ≤ 126) && decide (n ≠ 34) && decide (n ≠ 92)
/-- What comes of a text in quotes: its bytes, the place behind it, or a fault's place and code. -/
structure Quo where
  bytes : List Nat
  fin : Nat
  fat : Nat
  code : Nat
/-- Reading on, behind the first quote, at place k. -/
def quo : Nat → List UInt8 → Nat → List Nat → Quo
  | 0, _, _, _ => ⟨[], 0, 0, 13⟩
  | _ + 1, [], _, _ => ⟨[], 0, 0, 13⟩
  | f + 1, c :: l, k, acc =>
    if c.toNat = 34 then ⟨acc, k + 1, 0, 0⟩
    else if c.toNat = 92 then (if (rdql (c :: l)).2 = 0 then ⟨[], 0, k, 12⟩ else quo f ((c :: l).drop (rdql (c :: l)).2) (k + (rdql (c :: l)).2) (acc ++ [(rdql (c :: l)).1]))
    else if plainq c.toNat then quo f l (k + 1) (acc ++ [c.toNat])
    else ⟨[], 0, k, 11⟩
def quoted (l : List UInt8) : Quo := quo l.length (l.drop 1) 1 []

/-- Where the set ends of which the list is what stands behind place k - 1; 0: nowhere. -/
def clo : List UInt8 → Nat → Nat
  | [], _ => 0
  | [c], k => if c.toNat = 93 then k + 1 else 0
  | c :: d :: l, k => if c.toNat = 93 then k + 1 else if c.toNat = 92 then clo l (k + 2) else clo (d :: l) (k + 1)
theorem clo_end (c : UInt8) (l : List UInt8) (k : Nat) (h : c.toNat = 93) : clo (c :: l) k = k + 1 := by
  cases l <;> simp [clo, h]
theorem clo_esc (c : UInt8) (l : List UInt8) (k : Nat) (h : c.toNat = 92) : clo (c :: l) k = clo (l.drop 1) (k + 2) := by
  cases l <;> simp [clo, h]
theorem clo_on (c : UInt8) (l : List UInt8) (k : Nat) (h : c.toNat ≠ 93) (h2 : c.toNat ≠ 92) : clo (c :: l) k = clo l (k + 1) := by
  cases l <;> simp [clo, h, h2]

def numv (l : List UInt8) : Nat := l.foldl (fun n c => n * 10 + (c.toNat - 48)) 0
/-- What comes of the word at the beginning of a list: its kind, how many bytes it has, what it says; or a fault. -/
structure RW where
  kind : Nat
  len : Nat
  bytes : List Nat
  set : St
  n : Nat
  fat : Nat
  code : Nat
def RW.fault (fat code : Nat) : RW := ⟨0, 0, [], St.zero, 0, fat, code⟩
def RW.plain (kind len : Nat) : RW := ⟨kind, len, [], St.zero, 0, 0, 0⟩
def rdLet (l : List UInt8) (kind : Nat) : RW := if 32 < lspan alnum l then .fault 0 20 else .plain kind (lspan alnum l)
def rdNum (l : List UInt8) : RW :=
  if 6 < lspan digB l ∨ (1 < lspan digB l ∧ (l.getD 0 0).toNat = 48) then .fault 0 21
  else ⟨3, lspan digB l, [], St.zero, numv (l.take (lspan digB l)), 0, 0⟩
def rdText (l : List UInt8) : RW := if (quoted l).code = 0 then ⟨4, (quoted l).fin, (quoted l).bytes, St.zero, 0, 0, 0⟩ else .fault (quoted l).fat (quoted l).code
def rdSet (l : List UInt8) : RW :=
  if clo (l.drop 1) 1 = 0 then .fault 0 13
  else if (prs ⟨(l.take (clo (l.drop 1) 1)).toArray⟩).2.2 = 0 then ⟨5, clo (l.drop 1) 1, [], (prs ⟨(l.take (clo (l.drop 1) 1)).toArray⟩).1, 0, 0, 0⟩
  else .fault (prs ⟨(l.take (clo (l.drop 1) 1)).toArray⟩).2.1 (prs ⟨(l.take (clo (l.drop 1) 1)).toArray⟩).2.2
def signB (n : Nat) : Bool := decide (0 ≤ Lib.indexByte [61, 124, 46, 59, 62, 63, 42, 43, 123, 125, 40, 41, 95, 47, 44, 45] n.toUInt8)
def rdw : List UInt8 → RW
  | [] => .plain 7 0
  | c :: l =>
    if great c.toNat then rdLet (c :: l) 1
    else if small c.toNat then rdLet (c :: l) 2
    else if digB c.toNat then rdNum (c :: l)
    else if c.toNat = 34 then rdText (c :: l)
    else if c.toNat = 91 then rdSet (c :: l)
    else if signB c.toNat then .plain 6 1
    else .fault 0 11

/-- A word. -/
structure Wd where
  kind : Nat
  text : List UInt8
  bytes : List Nat
  set : St
  n : Nat
  fro : Nat
  line : Nat
  col : Nat
/-- Behind blanks and remarks: what is left, the place, the line, the line's first place. -/
def skp : List UInt8 → Bool → Nat → Nat → Nat → List UInt8 × Nat × Nat × Nat
  | [], _, p, ln, bg => ([], p, ln, bg)
  | c :: l, r, p, ln, bg =>
    if c.toNat = 10 then skp l false (p + 1) (ln + 1) (p + 1)
    else if r then skp l true (p + 1) ln bg
    else if c.toNat = 32 ∨ c.toNat = 9 ∨ c.toNat = 13 then skp l false (p + 1) ln bg
    else if c.toNat = 35 then skp l true (p + 1) ln bg
    else (c :: l, p, ln, bg)
def mkWd (r : List UInt8) (q : RW) (p ln bg : Nat) : Wd := ⟨q.kind, r.take q.len, q.bytes, q.set, q.n, p, ln, p - bg + 1⟩
def scn : Nat → List UInt8 → Nat → Nat → Nat → List Wd → List Wd × Nat × Nat
  | 0, _, _, _, _, _ => ([], 0, 0)
  | f + 1, l, p, ln, bg, acc =>
    let s := skp l false p ln bg
    let q := rdw s.1
    if q.code ≠ 0 then ([], s.2.1 + q.fat, q.code)
    else if q.kind = 7 then (acc ++ [mkWd s.1 q s.2.1 s.2.2.1 s.2.2.2], 0, 0)
    else scn f (s.1.drop q.len) (s.2.1 + q.len) s.2.2.1 s.2.2.2 (acc ++ [mkWd s.1 q s.2.1 s.2.2.1 s.2.2.2])
def scan (l : List UInt8) : List Wd × Nat × Nat := if 65536 < l.length then ([], 0, 2) else scn (l.length + 1) l 0 1 0 []

end Go.Proofs.Ytbbmjnhbmcbehaa
