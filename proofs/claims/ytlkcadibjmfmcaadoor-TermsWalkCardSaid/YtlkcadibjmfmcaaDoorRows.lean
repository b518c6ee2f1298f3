/-
  NARROWER THAN 'FOR EVERY INPUT', by the rows' own cells (each row's printed sentence says how): TermsTell: loops, laid · TermsSame: loops, laid · TermsParts: loops, laid · TermsWrites: loops, laid · TermsBack: loops, laid · TermsBlanks: loops, laid · TermsPut: loops, laid · TermsApart: loops, laid · TermsWalk: loops, laid.
  DERIVED. THE GIVEN ROWS OF THIS SEAT. 9 by the template 'for every input the law returns true; each argument reads behind the call as it read before'; 0 by the template 'total and deterministic' (their statements: YtlkcadibjmfmcaaDoorTotals.lean).
  GIVEN WITH THE SEED: the statements are not yours to turn. If you find one false, say at which input.
  Laid BY PROGRAM, IN A SANDBOX (cutbox-rows.mjs): the forced cells as the released guide's own fill.sh prints them over the translation 53c6652c0697390d… (all of the seat's roots in one cut). By AI agents, Wed Nov 11 2026. No macro, syntax, notation, axiom, sorry.
-/
import Derived.Test.YtlkcadibjmfmcaaDoorChecked
import GoSem.PinnedTables
import GoSem.Claim
import GoSem.ClaimJoined
import GoSem.ClaimMapViews
import Derived.JoinedTies
import Derived.KernelRfl
namespace Go.Proofs.YtlkcadibjmfmcaaDoor
/- THE CELL 'sum', in the pinned program and in every row, IS THE sha256 OF THE DUMP (.gsa) THAT YtlkcadibjmfmcaaDoorProg.lean LOADS. Nothing in Lean hashes anything: it is a label: what it is worth is what the hold of that sum in a sandbox is worth. -/
noncomputable def Tryd.pinned : Pinned := { name := "ytlkcadibjmfmcaadoor", sum := "53c6652c0697390d557fe0d22f6857be0603bffad37f985ea077ec3222e70d4b", checked := Tryd.checked }
namespace Rows
def none {H : Type} : Left H := { results := [], args := [] }

/- WHAT THE LISTED PACKAGE-LEVEL VARIABLES READ AS WHEN THE CALL BEGINS. Each datum BY PROGRAM (the guide's laid-datum.mjs) off the statement by which the dump's own 'gosem.cut.vars' lays the variable. In a bare row this is a premise. The card (YtlkcadibjmfmcaaDoorCards.lean) ties it to the program's text. -/
def laid_unicode_utf8_acceptRanges {H : Type} : DataW H := .agg [.agg [.lit (.int .u8 128), .lit (.int .u8 191)], .agg [.lit (.int .u8 160), .lit (.int .u8 191)], .agg [.lit (.int .u8 128), .lit (.int .u8 159)], .agg [.lit (.int .u8 144), .lit (.int .u8 191)], .agg [.lit (.int .u8 128), .lit (.int .u8 143)], .agg [.lit (.int .u8 0), .lit (.int .u8 0)], .agg [.lit (.int .u8 0), .lit (.int .u8 0)], .agg [.lit (.int .u8 0), .lit (.int .u8 0)], .agg [.lit (.int .u8 0), .lit (.int .u8 0)], .agg [.lit (.int .u8 0), .lit (.int .u8 0)], .agg [.lit (.int .u8 0), .lit (.int .u8 0)], .agg [.lit (.int .u8 0), .lit (.int .u8 0)], .agg [.lit (.int .u8 0), .lit (.int .u8 0)], .agg [.lit (.int .u8 0), .lit (.int .u8 0)], .agg [.lit (.int .u8 0), .lit (.int .u8 0)], .agg [.lit (.int .u8 0), .lit (.int .u8 0)]]
/-- One of Go's own tables, pinned by name: the form's constant. -/
def laid_unicode_utf8_first : DataW Unit := Go.Pinned.utf8First

/-- 'tracerylaw11.TermsTell': WHATEVER THE INPUT: true; the input reads as it did. -/
def termsTellSpec : ChangeSpec := { name := "termsTell", fn := fun _ => fun
  | [d] => { results := [.lit (.bool true)], args := [d] }
  | _ => none }
def termsTellRow : OpenClaim := { program := "ytlkcadibjmfmcaadoor", sum := "53c6652c0697390d557fe0d22f6857be0603bffad37f985ea077ec3222e70d4b", func := "tracery/tracerylaw11.TermsTell", spec := "termsTell", inPlace := ["internal/bytealg.IndexByteString", "internal/bytealg.IndexString", "internal/abi.NoEscape"], unfollowed := true, recurses := true, named := ["unicode/utf8.first", "unicode/utf8.acceptRanges", "internal/bytealg.MaxLen"], loops := true, apart := false, laid := [("unicode/utf8.acceptRanges", laid_unicode_utf8_acceptRanges), ("unicode/utf8.first", laid_unicode_utf8_first)] }
def TermsTellSaid : Prop := termsTellRow.holds Tryd.pinned (OpenSpec.ofChange termsTellSpec)

/-- ITS FALSE NEIGHBOUR: 'it returns false'. Refute it at one input. -/
def termsTellWrong : ChangeSpec := { name := "termsTell", fn := fun _ => fun
  | [d] => { results := [.lit (.bool false)], args := [d] }
  | _ => none }
def TermsTellWrongFalsely : Prop := termsTellRow.holds Tryd.pinned (OpenSpec.ofChange termsTellWrong)

/-- 'tracerylaw11.TermsSame': WHATEVER THE INPUT: true; the input reads as it did. -/
def termsSameSpec : ChangeSpec := { name := "termsSame", fn := fun _ => fun
  | [d1, d2] => { results := [.lit (.bool true)], args := [d1, d2] }
  | _ => none }
def termsSameRow : OpenClaim := { program := "ytlkcadibjmfmcaadoor", sum := "53c6652c0697390d557fe0d22f6857be0603bffad37f985ea077ec3222e70d4b", func := "tracery/tracerylaw11.TermsSame", spec := "termsSame", inPlace := ["internal/bytealg.IndexByteString", "internal/bytealg.IndexString", "internal/abi.NoEscape"], unfollowed := true, recurses := true, named := ["unicode/utf8.first", "unicode/utf8.acceptRanges", "internal/bytealg.MaxLen"], loops := true, apart := false, laid := [("unicode/utf8.acceptRanges", laid_unicode_utf8_acceptRanges), ("unicode/utf8.first", laid_unicode_utf8_first)] }
def TermsSameSaid : Prop := termsSameRow.holds Tryd.pinned (OpenSpec.ofChange termsSameSpec)

/-- ITS FALSE NEIGHBOUR: 'it returns false'. Refute it at one input. -/
def termsSameWrong : ChangeSpec := { name := "termsSame", fn := fun _ => fun
  | [d1, d2] => { results := [.lit (.bool false)], args := [d1, d2] }
  | _ => none }
def TermsSameWrongFalsely : Prop := termsSameRow.holds Tryd.pinned (OpenSpec.ofChange termsSameWrong)

/-- 'tracerylaw11.TermsParts': WHATEVER THE INPUT: true; the input reads as it did. -/
def termsPartsSpec : ChangeSpec := { name := "termsParts", fn := fun _ => fun
  | [d1, d2, d3] => { results := [.lit (.bool true)], args := [d1, d2, d3] }
  | _ => none }
def termsPartsRow : OpenClaim := { program := "ytlkcadibjmfmcaadoor", sum := "53c6652c0697390d557fe0d22f6857be0603bffad37f985ea077ec3222e70d4b", func := "tracery/tracerylaw11.TermsParts", spec := "termsParts", inPlace := ["internal/bytealg.IndexByteString", "internal/bytealg.IndexString", "internal/abi.NoEscape"], unfollowed := true, recurses := true, named := ["unicode/utf8.first", "unicode/utf8.acceptRanges", "internal/bytealg.MaxLen"], loops := true, apart := false, laid := [("unicode/utf8.acceptRanges", laid_unicode_utf8_acceptRanges), ("unicode/utf8.first", laid_unicode_utf8_first)] }
def TermsPartsSaid : Prop := termsPartsRow.holds Tryd.pinned (OpenSpec.ofChange termsPartsSpec)

/-- ITS FALSE NEIGHBOUR: 'it returns false'. Refute it at one input. -/
def termsPartsWrong : ChangeSpec := { name := "termsParts", fn := fun _ => fun
  | [d1, d2, d3] => { results := [.lit (.bool false)], args := [d1, d2, d3] }
  | _ => none }
def TermsPartsWrongFalsely : Prop := termsPartsRow.holds Tryd.pinned (OpenSpec.ofChange termsPartsWrong)

/-- 'tracerylaw11.TermsWrites': WHATEVER THE INPUT: true; the input reads as it did. -/
def termsWritesSpec : ChangeSpec := { name := "termsWrites", fn := fun _ => fun
  | [d] => { results := [.lit (.bool true)], args := [d] }
  | _ => none }
def termsWritesRow : OpenClaim := { program := "ytlkcadibjmfmcaadoor", sum := "53c6652c0697390d557fe0d22f6857be0603bffad37f985ea077ec3222e70d4b", func := "tracery/tracerylaw11.TermsWrites", spec := "termsWrites", inPlace := ["internal/bytealg.IndexByteString", "internal/bytealg.IndexString", "internal/abi.NoEscape"], unfollowed := true, recurses := true, named := ["unicode/utf8.first", "unicode/utf8.acceptRanges", "internal/bytealg.MaxLen"], loops := true, apart := false, laid := [("unicode/utf8.acceptRanges", laid_unicode_utf8_acceptRanges), ("unicode/utf8.first", laid_unicode_utf8_first)] }
def TermsWritesSaid : Prop := termsWritesRow.holds Tryd.pinned (OpenSpec.ofChange termsWritesSpec)

/-- ITS FALSE NEIGHBOUR: 'it returns false'. Refute it at one input. -/
def termsWritesWrong : ChangeSpec := { name := "termsWrites", fn := fun _ => fun
  | [d] => { results := [.lit (.bool false)], args := [d] }
  | _ => none }
def TermsWritesWrongFalsely : Prop := termsWritesRow.holds Tryd.pinned (OpenSpec.ofChange termsWritesWrong)

/-- 'tracerylaw11.TermsBack': WHATEVER THE INPUT: true; the input reads as it did. -/
def termsBackSpec : ChangeSpec := { name := "termsBack", fn := fun _ => fun
  | [d1, d2] => { results := [.lit (.bool true)], args := [d1, d2] }
  | _ => none }
def termsBackRow : OpenClaim := { program := "ytlkcadibjmfmcaadoor", sum := "53c6652c0697390d557fe0d22f6857be0603bffad37f985ea077ec3222e70d4b", func := "tracery/tracerylaw11.TermsBack", spec := "termsBack", inPlace := ["internal/bytealg.IndexByteString", "internal/bytealg.IndexString", "internal/abi.NoEscape"], unfollowed := true, recurses := true, named := ["unicode/utf8.first", "unicode/utf8.acceptRanges", "internal/bytealg.MaxLen"], loops := true, apart := false, laid := [("unicode/utf8.acceptRanges", laid_unicode_utf8_acceptRanges), ("unicode/utf8.first", laid_unicode_utf8_first)] }
def TermsBackSaid : Prop := termsBackRow.holds Tryd.pinned (OpenSpec.ofChange termsBackSpec)

/-- ITS FALSE NEIGHBOUR: 'it returns false'. Refute it at one input. -/
def termsBackWrong : ChangeSpec := { name := "termsBack", fn := fun _ => fun
  | [d1, d2] => { results := [.lit (.bool false)], args := [d1, d2] }
  | _ => none }
def TermsBackWrongFalsely : Prop := termsBackRow.holds Tryd.pinned (OpenSpec.ofChange termsBackWrong)

/-- 'tracerylaw11.TermsBlanks': WHATEVER THE INPUT: true; the input reads as it did. -/
def termsBlanksSpec : ChangeSpec := { name := "termsBlanks", fn := fun _ => fun
  | [d1, d2] => { results := [.lit (.bool true)], args := [d1, d2] }
  | _ => none }
def termsBlanksRow : OpenClaim := { program := "ytlkcadibjmfmcaadoor", sum := "53c6652c0697390d557fe0d22f6857be0603bffad37f985ea077ec3222e70d4b", func := "tracery/tracerylaw11.TermsBlanks", spec := "termsBlanks", inPlace := ["internal/bytealg.IndexByteString", "internal/bytealg.IndexString", "internal/abi.NoEscape"], unfollowed := true, recurses := true, named := ["unicode/utf8.first", "unicode/utf8.acceptRanges", "internal/bytealg.MaxLen"], loops := true, apart := false, laid := [("unicode/utf8.acceptRanges", laid_unicode_utf8_acceptRanges), ("unicode/utf8.first", laid_unicode_utf8_first)] }
def TermsBlanksSaid : Prop := termsBlanksRow.holds Tryd.pinned (OpenSpec.ofChange termsBlanksSpec)

/-- ITS FALSE NEIGHBOUR: 'it returns false'. Refute it at one input. -/
def termsBlanksWrong : ChangeSpec := { name := "termsBlanks", fn := fun _ => fun
  | [d1, d2] => { results := [.lit (.bool false)], args := [d1, d2] }
  | _ => none }
def TermsBlanksWrongFalsely : Prop := termsBlanksRow.holds Tryd.pinned (OpenSpec.ofChange termsBlanksWrong)

/-- 'tracerylaw11.TermsPut': WHATEVER THE INPUT: true; the input reads as it did. -/
def termsPutSpec : ChangeSpec := { name := "termsPut", fn := fun _ => fun
  | [d1, d2, d3] => { results := [.lit (.bool true)], args := [d1, d2, d3] }
  | _ => none }
def termsPutRow : OpenClaim := { program := "ytlkcadibjmfmcaadoor", sum := "53c6652c0697390d557fe0d22f6857be0603bffad37f985ea077ec3222e70d4b", func := "tracery/tracerylaw11.TermsPut", spec := "termsPut", inPlace := ["internal/bytealg.IndexByteString", "internal/bytealg.IndexString", "internal/abi.NoEscape"], unfollowed := true, recurses := true, named := ["unicode/utf8.first", "unicode/utf8.acceptRanges", "internal/bytealg.MaxLen"], loops := true, apart := false, laid := [("unicode/utf8.acceptRanges", laid_unicode_utf8_acceptRanges), ("unicode/utf8.first", laid_unicode_utf8_first)] }
def TermsPutSaid : Prop := termsPutRow.holds Tryd.pinned (OpenSpec.ofChange termsPutSpec)

/-- ITS FALSE NEIGHBOUR: 'it returns false'. Refute it at one input. -/
def termsPutWrong : ChangeSpec := { name := "termsPut", fn := fun _ => fun
  | [d1, d2, d3] => { results := [.lit (.bool false)], args := [d1, d2, d3] }
  | _ => none }
def TermsPutWrongFalsely : Prop := termsPutRow.holds Tryd.pinned (OpenSpec.ofChange termsPutWrong)

/-- 'tracerylaw11.TermsApart': WHATEVER THE INPUT: true; the input reads as it did. -/
def termsApartSpec : ChangeSpec := { name := "termsApart", fn := fun _ => fun
  | [d1, d2] => { results := [.lit (.bool true)], args := [d1, d2] }
  | _ => none }
def termsApartRow : OpenClaim := { program := "ytlkcadibjmfmcaadoor", sum := "53c6652c0697390d557fe0d22f6857be0603bffad37f985ea077ec3222e70d4b", func := "tracery/tracerylaw11.TermsApart", spec := "termsApart", inPlace := ["internal/bytealg.IndexByteString", "internal/bytealg.IndexString", "internal/abi.NoEscape"], unfollowed := true, recurses := true, named := ["unicode/utf8.first", "unicode/utf8.acceptRanges", "internal/bytealg.MaxLen"], loops := true, apart := false, laid := [("unicode/utf8.acceptRanges", laid_unicode_utf8_acceptRanges), ("unicode/utf8.first", laid_unicode_utf8_first)] }
def TermsApartSaid : Prop := termsApartRow.holds Tryd.pinned (OpenSpec.ofChange termsApartSpec)

/-- ITS FALSE NEIGHBOUR: 'it returns false'. Refute it at one input. -/
def termsApartWrong : ChangeSpec := { name := "termsApart", fn := fun _ => fun
  | [d1, d2] => { results := [.lit (.bool false)], args := [d1, d2] }
  | _ => none }
def TermsApartWrongFalsely : Prop := termsApartRow.holds Tryd.pinned (OpenSpec.ofChange termsApartWrong)

/-- 'tracerylaw11.TermsWalk': WHATEVER THE INPUT: true; the input reads as it did. -/
def termsWalkSpec : ChangeSpec := { name := "termsWalk", fn := fun _ => fun
  | [d1, d2] => { results := [.lit (.bool true)], args := [d1, d2] }
  | _ => none }
def termsWalkRow : OpenClaim := { program := "ytlkcadibjmfmcaadoor", sum := "53c6652c0697390d557fe0d22f6857be0603bffad37f985ea077ec3222e70d4b", func := "tracery/tracerylaw11.TermsWalk", spec := "termsWalk", inPlace := ["internal/bytealg.IndexByteString", "internal/bytealg.IndexString", "internal/abi.NoEscape"], unfollowed := true, recurses := true, named := ["unicode/utf8.first", "unicode/utf8.acceptRanges", "internal/bytealg.MaxLen"], loops := true, apart := false, laid := [("unicode/utf8.acceptRanges", laid_unicode_utf8_acceptRanges), ("unicode/utf8.first", laid_unicode_utf8_first)] }
def TermsWalkSaid : Prop := termsWalkRow.holds Tryd.pinned (OpenSpec.ofChange termsWalkSpec)

/-- ITS FALSE NEIGHBOUR: 'it returns false'. Refute it at one input. -/
def termsWalkWrong : ChangeSpec := { name := "termsWalk", fn := fun _ => fun
  | [d1, d2] => { results := [.lit (.bool false)], args := [d1, d2] }
  | _ => none }
def TermsWalkWrongFalsely : Prop := termsWalkRow.holds Tryd.pinned (OpenSpec.ofChange termsWalkWrong)

/- THE SECOND FORM. 'bulk': how many values and letters a reading holds, each counted each time it is reached (what is shared counts as often as it is met; a slice's spare places count too). A statement '..UptoSaid' is the law's where the arguments, and the package variables that the reading takes, are together of bulk at most 1048576: NARROWER than '..Said'. Prove '..Said' where nothing that the law and all that it calls make is longer than what came in: it says more and counts as full. Else prove '..UptoSaid'. A law counts once. -/
mutual
def uptoBulk {H : Type} : DataW H → Nat
  | .lit (.string bytes) => bytes.length + 1
  | .lit _ => 1
  | .nil => 1
  | .ptr d => uptoBulk d + 1
  | .slice elems spare => uptoBulkAll elems + uptoBulkAll spare + 1
  | .agg parts => uptoBulkAll parts + 1
  | .iface _ d => uptoBulk d + 1
  | .map entries => uptoBulkEntries entries + 1
  | .held _ => 1
def uptoBulkAll {H : Type} : List (DataW H) → Nat
  | [] => 0
  | d :: r => uptoBulk d + uptoBulkAll r
def uptoBulkEntries {H : Type} : List (Lit × DataW H) → Nat
  | [] => 0
  | x :: r => uptoBulkEntry x + uptoBulkEntries r
def uptoBulkEntry {H : Type} : Lit × DataW H → Nat
  | (.string bytes, d) => bytes.length + uptoBulk d + 1
  | (_, d) => uptoBulk d + 1
 end
def uptoSmall : (H : Type) → List (DataW H) → Bool := fun _ ds => decide (uptoBulkAll ds ≤ 1048576)
def OpenSpec.upto (s : _root_.Go.ChangeSpec) : _root_.Go.OpenSpec := { _root_.Go.OpenSpec.ofChange s with cond := some uptoSmall }

/-- 'tracerylaw11.TermsTell', WHERE WHAT IT READS IS OF BULK AT MOST 1048576: true; the input reads as it did. -/
def termsTellUptoRow : OpenClaim := { program := "ytlkcadibjmfmcaadoor", sum := "53c6652c0697390d557fe0d22f6857be0603bffad37f985ea077ec3222e70d4b", func := "tracery/tracerylaw11.TermsTell", spec := "termsTell", inPlace := ["internal/bytealg.IndexByteString", "internal/bytealg.IndexString", "internal/abi.NoEscape"], unfollowed := true, recurses := true, named := ["unicode/utf8.first", "unicode/utf8.acceptRanges", "internal/bytealg.MaxLen"], loops := true, apart := false, laid := [("unicode/utf8.acceptRanges", laid_unicode_utf8_acceptRanges), ("unicode/utf8.first", laid_unicode_utf8_first)], narrowed := true }
def TermsTellUptoSaid : Prop := termsTellUptoRow.holds Tryd.pinned (OpenSpec.upto termsTellSpec)

/-- 'tracerylaw11.TermsSame', WHERE WHAT IT READS IS OF BULK AT MOST 1048576: true; the input reads as it did. -/
def termsSameUptoRow : OpenClaim := { program := "ytlkcadibjmfmcaadoor", sum := "53c6652c0697390d557fe0d22f6857be0603bffad37f985ea077ec3222e70d4b", func := "tracery/tracerylaw11.TermsSame", spec := "termsSame", inPlace := ["internal/bytealg.IndexByteString", "internal/bytealg.IndexString", "internal/abi.NoEscape"], unfollowed := true, recurses := true, named := ["unicode/utf8.first", "unicode/utf8.acceptRanges", "internal/bytealg.MaxLen"], loops := true, apart := false, laid := [("unicode/utf8.acceptRanges", laid_unicode_utf8_acceptRanges), ("unicode/utf8.first", laid_unicode_utf8_first)], narrowed := true }
def TermsSameUptoSaid : Prop := termsSameUptoRow.holds Tryd.pinned (OpenSpec.upto termsSameSpec)

/-- 'tracerylaw11.TermsParts', WHERE WHAT IT READS IS OF BULK AT MOST 1048576: true; the input reads as it did. -/
def termsPartsUptoRow : OpenClaim := { program := "ytlkcadibjmfmcaadoor", sum := "53c6652c0697390d557fe0d22f6857be0603bffad37f985ea077ec3222e70d4b", func := "tracery/tracerylaw11.TermsParts", spec := "termsParts", inPlace := ["internal/bytealg.IndexByteString", "internal/bytealg.IndexString", "internal/abi.NoEscape"], unfollowed := true, recurses := true, named := ["unicode/utf8.first", "unicode/utf8.acceptRanges", "internal/bytealg.MaxLen"], loops := true, apart := false, laid := [("unicode/utf8.acceptRanges", laid_unicode_utf8_acceptRanges), ("unicode/utf8.first", laid_unicode_utf8_first)], narrowed := true }
def TermsPartsUptoSaid : Prop := termsPartsUptoRow.holds Tryd.pinned (OpenSpec.upto termsPartsSpec)

/-- 'tracerylaw11.TermsWrites', WHERE WHAT IT READS IS OF BULK AT MOST 1048576: true; the input reads as it did. -/
def termsWritesUptoRow : OpenClaim := { program := "ytlkcadibjmfmcaadoor", sum := "53c6652c0697390d557fe0d22f6857be0603bffad37f985ea077ec3222e70d4b", func := "tracery/tracerylaw11.TermsWrites", spec := "termsWrites", inPlace := ["internal/bytealg.IndexByteString", "internal/bytealg.IndexString", "internal/abi.NoEscape"], unfollowed := true, recurses := true, named := ["unicode/utf8.first", "unicode/utf8.acceptRanges", "internal/bytealg.MaxLen"], loops := true, apart := false, laid := [("unicode/utf8.acceptRanges", laid_unicode_utf8_acceptRanges), ("unicode/utf8.first", laid_unicode_utf8_first)], narrowed := true }
def TermsWritesUptoSaid : Prop := termsWritesUptoRow.holds Tryd.pinned (OpenSpec.upto termsWritesSpec)

/-- 'tracerylaw11.TermsBack', WHERE WHAT IT READS IS OF BULK AT MOST 1048576: true; the input reads as it did. -/
def termsBackUptoRow : OpenClaim := { program := "ytlkcadibjmfmcaadoor", sum := "53c6652c0697390d557fe0d22f6857be0603bffad37f985ea077ec3222e70d4b", func := "tracery/tracerylaw11.TermsBack", spec := "termsBack", inPlace := ["internal/bytealg.IndexByteString", "internal/bytealg.IndexString", "internal/abi.NoEscape"], unfollowed := true, recurses := true, named := ["unicode/utf8.first", "unicode/utf8.acceptRanges", "internal/bytealg.MaxLen"], loops := true, apart := false, laid := [("unicode/utf8.acceptRanges", laid_unicode_utf8_acceptRanges), ("unicode/utf8.first", laid_unicode_utf8_first)], narrowed := true }
def TermsBackUptoSaid : Prop := termsBackUptoRow.holds Tryd.pinned (OpenSpec.upto termsBackSpec)

/-- 'tracerylaw11.TermsBlanks', WHERE WHAT IT READS IS OF BULK AT MOST 1048576: true; the input reads as it did. -/
def termsBlanksUptoRow : OpenClaim := { program := "ytlkcadibjmfmcaadoor", sum := "53c6652c0697390d557fe0d22f6857be0603bffad37f985ea077ec3222e70d4b", func := "tracery/tracerylaw11.TermsBlanks", spec := "termsBlanks", inPlace := ["internal/bytealg.IndexByteString", "internal/bytealg.IndexString", "internal/abi.NoEscape"], unfollowed := true, recurses := true, named := ["unicode/utf8.first", "unicode/utf8.acceptRanges", "internal/bytealg.MaxLen"], loops := true, apart := false, laid := [("unicode/utf8.acceptRanges", laid_unicode_utf8_acceptRanges), ("unicode/utf8.first", laid_unicode_utf8_first)], narrowed := true }
def TermsBlanksUptoSaid : Prop := termsBlanksUptoRow.holds Tryd.pinned (OpenSpec.upto termsBlanksSpec)

/-- 'tracerylaw11.TermsPut', WHERE WHAT IT READS IS OF BULK AT MOST 1048576: true; the input reads as it did. -/
def termsPutUptoRow : OpenClaim := { program := "ytlkcadibjmfmcaadoor", sum := "53c6652c0697390d557fe0d22f6857be0603bffad37f985ea077ec3222e70d4b", func := "tracery/tracerylaw11.TermsPut", spec := "termsPut", inPlace := ["internal/bytealg.IndexByteString", "internal/bytealg.IndexString", "internal/abi.NoEscape"], unfollowed := true, recurses := true, named := ["unicode/utf8.first", "unicode/utf8.acceptRanges", "internal/bytealg.MaxLen"], loops := true, apart := false, laid := [("unicode/utf8.acceptRanges", laid_unicode_utf8_acceptRanges), ("unicode/utf8.first", laid_unicode_utf8_first)], narrowed := true }
def TermsPutUptoSaid : Prop := termsPutUptoRow.holds Tryd.pinned (OpenSpec.upto termsPutSpec)

/-- 'tracerylaw11.TermsApart', WHERE WHAT IT READS IS OF BULK AT MOST 1048576: true; the input reads as it did. -/
def termsApartUptoRow : OpenClaim := { program := "ytlkcadibjmfmcaadoor", sum := "53c6652c0697390d557fe0d22f6857be0603bffad37f985ea077ec3222e70d4b", func := "tracery/tracerylaw11.TermsApart", spec := "termsApart", inPlace := ["internal/bytealg.IndexByteString", "internal/bytealg.IndexString", "internal/abi.NoEscape"], unfollowed := true, recurses := true, named := ["unicode/utf8.first", "unicode/utf8.acceptRanges", "internal/bytealg.MaxLen"], loops := true, apart := false, laid := [("unicode/utf8.acceptRanges", laid_unicode_utf8_acceptRanges), ("unicode/utf8.first", laid_unicode_utf8_first)], narrowed := true }
def TermsApartUptoSaid : Prop := termsApartUptoRow.holds Tryd.pinned (OpenSpec.upto termsApartSpec)

/-- 'tracerylaw11.TermsWalk', WHERE WHAT IT READS IS OF BULK AT MOST 1048576: true; the input reads as it did. -/
def termsWalkUptoRow : OpenClaim := { program := "ytlkcadibjmfmcaadoor", sum := "53c6652c0697390d557fe0d22f6857be0603bffad37f985ea077ec3222e70d4b", func := "tracery/tracerylaw11.TermsWalk", spec := "termsWalk", inPlace := ["internal/bytealg.IndexByteString", "internal/bytealg.IndexString", "internal/abi.NoEscape"], unfollowed := true, recurses := true, named := ["unicode/utf8.first", "unicode/utf8.acceptRanges", "internal/bytealg.MaxLen"], loops := true, apart := false, laid := [("unicode/utf8.acceptRanges", laid_unicode_utf8_acceptRanges), ("unicode/utf8.first", laid_unicode_utf8_first)], narrowed := true }
def TermsWalkUptoSaid : Prop := termsWalkUptoRow.holds Tryd.pinned (OpenSpec.upto termsWalkSpec)

end Rows
end Go.Proofs.YtlkcadibjmfmcaaDoor
