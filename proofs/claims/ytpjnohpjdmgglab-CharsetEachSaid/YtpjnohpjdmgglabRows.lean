/-
  No cell of these rows narrows 'for every input' (looked for: loops, veiled, ifaces, maps, wideKeys, modest, calm, conditions, laid).
  DERIVED. THE GIVEN ROWS OF THIS SEAT. 6 by the template 'for every input the law returns true; each argument reads behind the call as it read before'; 0 by the template 'total and deterministic' (their statements: YtpjnohpjdmgglabTotals.lean).
  GIVEN WITH THE SEED: the statements are not yours to turn. If you find one false, say at which input.
  Laid BY PROGRAM, IN A SANDBOX (cutbox-rows.mjs): the forced cells as the released guide's own fill.sh prints them over the translation e3af00f62fb5a5fd… (all of the seat's roots in one cut). By AI agents, Wed Nov 11 2026. No macro, syntax, notation, axiom, sorry.
-/
import Derived.Test.YtpjnohpjdmgglabChecked
import GoSem.Claim
import GoSem.ClaimJoined
import GoSem.ClaimMapViews
import Derived.JoinedTies
import Derived.KernelRfl
namespace Go.Proofs.Ytpjnohpjdmgglab
/- THE CELL 'sum', in the pinned program and in every row, IS THE sha256 OF THE DUMP (.gsa) THAT YtpjnohpjdmgglabProg.lean LOADS. Nothing in Lean hashes anything: it is a label: what it is worth is what the hold of that sum in a sandbox is worth. -/
noncomputable def Try.pinned : Pinned := { name := "ytpjnohpjdmgglab", sum := "e3af00f62fb5a5fd5246dc308e4ce9fb93cb74d8650c4c33369507d6c3472bb3", checked := Try.checked }
namespace Rows
def none {H : Type} : Left H := { results := [], args := [] }

/-- 'tracerylaw01.CharsetAlgebra': WHATEVER THE INPUT: true; the input reads as it did. -/
def charsetAlgebraSpec : ChangeSpec := { name := "charsetAlgebra", fn := fun _ => fun
  | [d1, d2, d3] => { results := [.lit (.bool true)], args := [d1, d2, d3] }
  | _ => none }
def charsetAlgebraRow : OpenClaim := { program := "ytpjnohpjdmgglab", sum := "e3af00f62fb5a5fd5246dc308e4ce9fb93cb74d8650c4c33369507d6c3472bb3", func := "tracery/tracerylaw01.CharsetAlgebra", spec := "charsetAlgebra", inPlace := ["internal/bytealg.IndexByteString", "internal/abi.NoEscape"], unfollowed := true, recurses := true, apart := false }
def CharsetAlgebraSaid : Prop := charsetAlgebraRow.holds Try.pinned (OpenSpec.ofChange charsetAlgebraSpec)

/-- ITS FALSE NEIGHBOUR: 'it returns false'. Refute it at one input. -/
def charsetAlgebraWrong : ChangeSpec := { name := "charsetAlgebra", fn := fun _ => fun
  | [d1, d2, d3] => { results := [.lit (.bool false)], args := [d1, d2, d3] }
  | _ => none }
def CharsetAlgebraWrongFalsely : Prop := charsetAlgebraRow.holds Try.pinned (OpenSpec.ofChange charsetAlgebraWrong)

/-- 'tracerylaw01.CharsetApart': WHATEVER THE INPUT: true; the input reads as it did. -/
def charsetApartSpec : ChangeSpec := { name := "charsetApart", fn := fun _ => fun
  | [d1, d2] => { results := [.lit (.bool true)], args := [d1, d2] }
  | _ => none }
def charsetApartRow : OpenClaim := { program := "ytpjnohpjdmgglab", sum := "e3af00f62fb5a5fd5246dc308e4ce9fb93cb74d8650c4c33369507d6c3472bb3", func := "tracery/tracerylaw01.CharsetApart", spec := "charsetApart", inPlace := ["internal/bytealg.IndexByteString", "internal/abi.NoEscape"], unfollowed := true, recurses := true, apart := false }
def CharsetApartSaid : Prop := charsetApartRow.holds Try.pinned (OpenSpec.ofChange charsetApartSpec)

/-- ITS FALSE NEIGHBOUR: 'it returns false'. Refute it at one input. -/
def charsetApartWrong : ChangeSpec := { name := "charsetApart", fn := fun _ => fun
  | [d1, d2] => { results := [.lit (.bool false)], args := [d1, d2] }
  | _ => none }
def CharsetApartWrongFalsely : Prop := charsetApartRow.holds Try.pinned (OpenSpec.ofChange charsetApartWrong)

/-- 'tracerylaw01.CharsetEach': WHATEVER THE INPUT: true; the input reads as it did. -/
def charsetEachSpec : ChangeSpec := { name := "charsetEach", fn := fun _ => fun
  | [d1, d2] => { results := [.lit (.bool true)], args := [d1, d2] }
  | _ => none }
def charsetEachRow : OpenClaim := { program := "ytpjnohpjdmgglab", sum := "e3af00f62fb5a5fd5246dc308e4ce9fb93cb74d8650c4c33369507d6c3472bb3", func := "tracery/tracerylaw01.CharsetEach", spec := "charsetEach", inPlace := ["internal/bytealg.IndexByteString", "internal/abi.NoEscape"], unfollowed := true, recurses := true, apart := false }
def CharsetEachSaid : Prop := charsetEachRow.holds Try.pinned (OpenSpec.ofChange charsetEachSpec)

/-- ITS FALSE NEIGHBOUR: 'it returns false'. Refute it at one input. -/
def charsetEachWrong : ChangeSpec := { name := "charsetEach", fn := fun _ => fun
  | [d1, d2] => { results := [.lit (.bool false)], args := [d1, d2] }
  | _ => none }
def CharsetEachWrongFalsely : Prop := charsetEachRow.holds Try.pinned (OpenSpec.ofChange charsetEachWrong)

/-- 'tracerylaw02.WordsScans': WHATEVER THE INPUT: true; the input reads as it did. -/
def wordsScansSpec : ChangeSpec := { name := "wordsScans", fn := fun _ => fun
  | [d] => { results := [.lit (.bool true)], args := [d] }
  | _ => none }
def wordsScansRow : OpenClaim := { program := "ytpjnohpjdmgglab", sum := "e3af00f62fb5a5fd5246dc308e4ce9fb93cb74d8650c4c33369507d6c3472bb3", func := "tracery/tracerylaw02.WordsScans", spec := "wordsScans", inPlace := ["internal/bytealg.IndexByteString", "internal/bytealg.CountString", "internal/bytealg.IndexString"], named := ["internal/bytealg.MaxLen"], apart := false }
def WordsScansSaid : Prop := wordsScansRow.holds Try.pinned (OpenSpec.ofChange wordsScansSpec)

/-- ITS FALSE NEIGHBOUR: 'it returns false'. Refute it at one input. -/
def wordsScansWrong : ChangeSpec := { name := "wordsScans", fn := fun _ => fun
  | [d] => { results := [.lit (.bool false)], args := [d] }
  | _ => none }
def WordsScansWrongFalsely : Prop := wordsScansRow.holds Try.pinned (OpenSpec.ofChange wordsScansWrong)

/-- 'tracerylaw02.WordsQuotes': WHATEVER THE INPUT: true; the input reads as it did. -/
def wordsQuotesSpec : ChangeSpec := { name := "wordsQuotes", fn := fun _ => fun
  | [d1, d2] => { results := [.lit (.bool true)], args := [d1, d2] }
  | _ => none }
def wordsQuotesRow : OpenClaim := { program := "ytpjnohpjdmgglab", sum := "e3af00f62fb5a5fd5246dc308e4ce9fb93cb74d8650c4c33369507d6c3472bb3", func := "tracery/tracerylaw02.WordsQuotes", spec := "wordsQuotes", inPlace := ["internal/bytealg.IndexByteString", "internal/bytealg.CountString", "internal/bytealg.IndexString", "internal/abi.NoEscape"], named := ["internal/bytealg.MaxLen"], apart := false }
def WordsQuotesSaid : Prop := wordsQuotesRow.holds Try.pinned (OpenSpec.ofChange wordsQuotesSpec)

/-- ITS FALSE NEIGHBOUR: 'it returns false'. Refute it at one input. -/
def wordsQuotesWrong : ChangeSpec := { name := "wordsQuotes", fn := fun _ => fun
  | [d1, d2] => { results := [.lit (.bool false)], args := [d1, d2] }
  | _ => none }
def WordsQuotesWrongFalsely : Prop := wordsQuotesRow.holds Try.pinned (OpenSpec.ofChange wordsQuotesWrong)

/-- 'tracerylaw02.WordsNames': WHATEVER THE INPUT: true; the input reads as it did. -/
def wordsNamesSpec : ChangeSpec := { name := "wordsNames", fn := fun _ => fun
  | [d] => { results := [.lit (.bool true)], args := [d] }
  | _ => none }
def wordsNamesRow : OpenClaim := { program := "ytpjnohpjdmgglab", sum := "e3af00f62fb5a5fd5246dc308e4ce9fb93cb74d8650c4c33369507d6c3472bb3", func := "tracery/tracerylaw02.WordsNames", spec := "wordsNames", inPlace := ["internal/bytealg.IndexByteString", "internal/bytealg.CountString", "internal/bytealg.IndexString"], named := ["internal/bytealg.MaxLen"], apart := false }
def WordsNamesSaid : Prop := wordsNamesRow.holds Try.pinned (OpenSpec.ofChange wordsNamesSpec)

/-- ITS FALSE NEIGHBOUR: 'it returns false'. Refute it at one input. -/
def wordsNamesWrong : ChangeSpec := { name := "wordsNames", fn := fun _ => fun
  | [d] => { results := [.lit (.bool false)], args := [d] }
  | _ => none }
def WordsNamesWrongFalsely : Prop := wordsNamesRow.holds Try.pinned (OpenSpec.ofChange wordsNamesWrong)

/- THE SECOND FORM. 'bulk': how many values and letters a reading holds, each counted each time it is reached (what is shared counts as often as it is met; a slice's spare places count too). A statement '..UptoSaid' is the law's where the arguments, and the package variables that the reading takes, are together of bulk at most 1048576: NARROWER than '..Said'. Prove '..Said' where nothing that the law and all that it calls make is longer than what came in: it says more and counts as full. Else prove '..UptoSaid'. A law counts once. -/
mutual
def uptoBulk {H : Type} : DataW H → Nat
  | .lit (.string bytes) => bytes.length + 1
  | .lit _ => 1
  | .nil => 1
  | .ptr d => uptoBulk d + 1
  | .slice elems spare => uptoBulkAll elems + uptoBulkAll spare + 1
  | .agg parts => uptoBulkAll parts + 1
  | .iface _ d => uptoBulk d + 1
  | .map entries => uptoBulkEntries entries + 1
  | .held _ => 1
def uptoBulkAll {H : Type} : List (DataW H) → Nat
  | [] => 0
  | d :: r => uptoBulk d + uptoBulkAll r
def uptoBulkEntries {H : Type} : List (Lit × DataW H) → Nat
  | [] => 0
  | x :: r => uptoBulkEntry x + uptoBulkEntries r
def uptoBulkEntry {H : Type} : Lit × DataW H → Nat
  | (.string bytes, d) => bytes.length + uptoBulk d + 1
  | (_, d) => uptoBulk d + 1
 end
def uptoSmall : (H : Type) → List (DataW H) → Bool := fun _ ds => decide (uptoBulkAll ds ≤ 1048576)
def OpenSpec.upto (s : _root_.Go.ChangeSpec) : _root_.Go.OpenSpec := { _root_.Go.OpenSpec.ofChange s with cond := some uptoSmall }

/-- 'tracerylaw01.CharsetAlgebra', WHERE WHAT IT READS IS OF BULK AT MOST 1048576: true; the input reads as it did. -/
def charsetAlgebraUptoRow : OpenClaim := { program := "ytpjnohpjdmgglab", sum := "e3af00f62fb5a5fd5246dc308e4ce9fb93cb74d8650c4c33369507d6c3472bb3", func := "tracery/tracerylaw01.CharsetAlgebra", spec := "charsetAlgebra", inPlace := ["internal/bytealg.IndexByteString", "internal/abi.NoEscape"], unfollowed := true, recurses := true, apart := false, narrowed := true }
def CharsetAlgebraUptoSaid : Prop := charsetAlgebraUptoRow.holds Try.pinned (OpenSpec.upto charsetAlgebraSpec)

/-- 'tracerylaw01.CharsetApart', WHERE WHAT IT READS IS OF BULK AT MOST 1048576: true; the input reads as it did. -/
def charsetApartUptoRow : OpenClaim := { program := "ytpjnohpjdmgglab", sum := "e3af00f62fb5a5fd5246dc308e4ce9fb93cb74d8650c4c33369507d6c3472bb3", func := "tracery/tracerylaw01.CharsetApart", spec := "charsetApart", inPlace := ["internal/bytealg.IndexByteString", "internal/abi.NoEscape"], unfollowed := true, recurses := true, apart := false, narrowed := true }
def CharsetApartUptoSaid : Prop := charsetApartUptoRow.holds Try.pinned (OpenSpec.upto charsetApartSpec)

/-- 'tracerylaw01.CharsetEach', WHERE WHAT IT READS IS OF BULK AT MOST 1048576: true; the input reads as it did. -/
def charsetEachUptoRow : OpenClaim := { program := "ytpjnohpjdmgglab", sum := "e3af00f62fb5a5fd5246dc308e4ce9fb93cb74d8650c4c33369507d6c3472bb3", func := "tracery/tracerylaw01.CharsetEach", spec := "charsetEach", inPlace := ["internal/bytealg.IndexByteString", "internal/abi.NoEscape"], unfollowed := true, recurses := true, apart := false, narrowed := true }
def CharsetEachUptoSaid : Prop := charsetEachUptoRow.holds Try.pinned (OpenSpec.upto charsetEachSpec)

/-- 'tracerylaw02.WordsScans', WHERE WHAT IT READS IS OF BULK AT MOST 1048576: true; the input reads as it did. -/
def wordsScansUptoRow : OpenClaim := { program := "ytpjnohpjdmgglab", sum := "e3af00f62fb5a5fd5246dc308e4ce9fb93cb74d8650c4c33369507d6c3472bb3", func := "tracery/tracerylaw02.WordsScans", spec := "wordsScans", inPlace := ["internal/bytealg.IndexByteString", "internal/bytealg.CountString", "internal/bytealg.IndexString"], named := ["internal/bytealg.MaxLen"], apart := false, narrowed := true }
def WordsScansUptoSaid : Prop := wordsScansUptoRow.holds Try.pinned (OpenSpec.upto wordsScansSpec)

/-- 'tracerylaw02.WordsQuotes', WHERE WHAT IT READS IS OF BULK AT MOST 1048576: true; the input reads as it did. -/
def wordsQuotesUptoRow : OpenClaim := { program := "ytpjnohpjdmgglab", sum := "e3af00f62fb5a5fd5246dc308e4ce9fb93cb74d8650c4c33369507d6c3472bb3", func := "tracery/tracerylaw02.WordsQuotes", spec := "wordsQuotes", inPlace := ["internal/bytealg.IndexByteString", "internal/bytealg.CountString", "internal/bytealg.IndexString", "internal/abi.NoEscape"], named := ["internal/bytealg.MaxLen"], apart := false, narrowed := true }
def WordsQuotesUptoSaid : Prop := wordsQuotesUptoRow.holds Try.pinned (OpenSpec.upto wordsQuotesSpec)

/-- 'tracerylaw02.WordsNames', WHERE WHAT IT READS IS OF BULK AT MOST 1048576: true; the input reads as it did. -/
def wordsNamesUptoRow : OpenClaim := { program := "ytpjnohpjdmgglab", sum := "e3af00f62fb5a5fd5246dc308e4ce9fb93cb74d8650c4c33369507d6c3472bb3", func := "tracery/tracerylaw02.WordsNames", spec := "wordsNames", inPlace := ["internal/bytealg.IndexByteString", "internal/bytealg.CountString", "internal/bytealg.IndexString"], named := ["internal/bytealg.MaxLen"], apart := false, narrowed := true }
def WordsNamesUptoSaid : Prop := wordsNamesUptoRow.holds Try.pinned (OpenSpec.upto wordsNamesSpec)

end Rows
end Go.Proofs.Ytpjnohpjdmgglab
