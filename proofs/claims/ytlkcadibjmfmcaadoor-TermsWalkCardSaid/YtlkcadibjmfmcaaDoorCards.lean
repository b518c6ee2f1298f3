/-
  DERIVED. GIVEN WITH THE SEED: THE CARDS: each row of YtlkcadibjmfmcaaDoorRows.lean that lists a variable, with what it lists TIED to the program's text (the seventh form; the later family's looks); each row that meets fmt, with fmt's text TOLD by the authors' own Lean function (tested against real Go, not proved from fmt's source: count such statements apart). THE CARD IS WHAT COUNTS. Prove the row's statement (the work); the ties are given (YtlkcadibjmfmcaaDoorTie.lean); close each card by the builder's one call (the guide's Derived/Test/ToyasCard.lean, 'card_holds'). Laid BY PROGRAM, IN A SANDBOX (cutbox-door.mjs). By AI agents, Wed Nov 11 2026. No macro, syntax, notation, axiom, sorry.
-/
import Derived.Test.YtlkcadibjmfmcaaDoorRows
import GoSem.ClaimSeven
namespace Go.Proofs.YtlkcadibjmfmcaaDoor
namespace Rows

/-- THE TIED CARD OF 'tracerylaw11.TermsTell'. -/
def termsTellCard : Claim7 := { stood := { row := termsTellRow, standIns := [], harness := (true, "d51450ea32ec046e0c44df61365fd24a43b09a458279b99998467ab1b2978af6"), looks := true }, kinds := [], alts := [], laidByText := true, laidKinds := [.data, .pinned], laidTests := true, laidLooks := .later }
def TermsTellCardSaid : Prop := Claim7.holds Tryd.pinned (.plain (OpenSpec.ofChange termsTellSpec)) termsTellCard

/-- THE TIED CARD OF 'tracerylaw11.TermsSame'. -/
def termsSameCard : Claim7 := { stood := { row := termsSameRow, standIns := [], harness := (true, "d51450ea32ec046e0c44df61365fd24a43b09a458279b99998467ab1b2978af6"), looks := true }, kinds := [], alts := [], laidByText := true, laidKinds := [.data, .pinned], laidTests := true, laidLooks := .later }
def TermsSameCardSaid : Prop := Claim7.holds Tryd.pinned (.plain (OpenSpec.ofChange termsSameSpec)) termsSameCard

/-- THE TIED CARD OF 'tracerylaw11.TermsParts'. -/
def termsPartsCard : Claim7 := { stood := { row := termsPartsRow, standIns := [], harness := (true, "d51450ea32ec046e0c44df61365fd24a43b09a458279b99998467ab1b2978af6"), looks := true }, kinds := [], alts := [], laidByText := true, laidKinds := [.data, .pinned], laidTests := true, laidLooks := .later }
def TermsPartsCardSaid : Prop := Claim7.holds Tryd.pinned (.plain (OpenSpec.ofChange termsPartsSpec)) termsPartsCard

/-- THE TIED CARD OF 'tracerylaw11.TermsWrites'. -/
def termsWritesCard : Claim7 := { stood := { row := termsWritesRow, standIns := [], harness := (true, "d51450ea32ec046e0c44df61365fd24a43b09a458279b99998467ab1b2978af6"), looks := true }, kinds := [], alts := [], laidByText := true, laidKinds := [.data, .pinned], laidTests := true, laidLooks := .later }
def TermsWritesCardSaid : Prop := Claim7.holds Tryd.pinned (.plain (OpenSpec.ofChange termsWritesSpec)) termsWritesCard

/-- THE TIED CARD OF 'tracerylaw11.TermsBack'. -/
def termsBackCard : Claim7 := { stood := { row := termsBackRow, standIns := [], harness := (true, "d51450ea32ec046e0c44df61365fd24a43b09a458279b99998467ab1b2978af6"), looks := true }, kinds := [], alts := [], laidByText := true, laidKinds := [.data, .pinned], laidTests := true, laidLooks := .later }
def TermsBackCardSaid : Prop := Claim7.holds Tryd.pinned (.plain (OpenSpec.ofChange termsBackSpec)) termsBackCard

/-- THE TIED CARD OF 'tracerylaw11.TermsBlanks'. -/
def termsBlanksCard : Claim7 := { stood := { row := termsBlanksRow, standIns := [], harness := (true, "d51450ea32ec046e0c44df61365fd24a43b09a458279b99998467ab1b2978af6"), looks := true }, kinds := [], alts := [], laidByText := true, laidKinds := [.data, .pinned], laidTests := true, laidLooks := .later }
def TermsBlanksCardSaid : Prop := Claim7.holds Tryd.pinned (.plain (OpenSpec.ofChange termsBlanksSpec)) termsBlanksCard

/-- THE TIED CARD OF 'tracerylaw11.TermsPut'. -/
def termsPutCard : Claim7 := { stood := { row := termsPutRow, standIns := [], harness := (true, "d51450ea32ec046e0c44df61365fd24a43b09a458279b99998467ab1b2978af6"), looks := true }, kinds := [], alts := [], laidByText := true, laidKinds := [.data, .pinned], laidTests := true, laidLooks := .later }
def TermsPutCardSaid : Prop := Claim7.holds Tryd.pinned (.plain (OpenSpec.ofChange termsPutSpec)) termsPutCard

/-- THE TIED CARD OF 'tracerylaw11.TermsApart'. -/
def termsApartCard : Claim7 := { stood := { row := termsApartRow, standIns := [], harness := (true, "d51450ea32ec046e0c44df61365fd24a43b09a458279b99998467ab1b2978af6"), looks := true }, kinds := [], alts := [], laidByText := true, laidKinds := [.data, .pinned], laidTests := true, laidLooks := .later }
def TermsApartCardSaid : Prop := Claim7.holds Tryd.pinned (.plain (OpenSpec.ofChange termsApartSpec)) termsApartCard

/-- THE TIED CARD OF 'tracerylaw11.TermsWalk'. -/
def termsWalkCard : Claim7 := { stood := { row := termsWalkRow, standIns := [], harness := (true, "d51450ea32ec046e0c44df61365fd24a43b09a458279b99998467ab1b2978af6"), looks := true }, kinds := [], alts := [], laidByText := true, laidKinds := [.data, .pinned], laidTests := true, laidLooks := .later }
def TermsWalkCardSaid : Prop := Claim7.holds Tryd.pinned (.plain (OpenSpec.ofChange termsWalkSpec)) termsWalkCard

/-- THE SECOND FORM's CARD OF 'tracerylaw11.TermsTell'. -/
def termsTellUptoCard : Claim7 := { stood := { row := termsTellUptoRow, standIns := [], harness := (true, "d51450ea32ec046e0c44df61365fd24a43b09a458279b99998467ab1b2978af6"), looks := true }, kinds := [], alts := [], laidByText := true, laidKinds := [.data, .pinned], laidTests := true, laidLooks := .later }
def TermsTellUptoCardSaid : Prop := Claim7.holds Tryd.pinned (.plain (OpenSpec.upto termsTellSpec)) termsTellUptoCard

/-- THE SECOND FORM's CARD OF 'tracerylaw11.TermsSame'. -/
def termsSameUptoCard : Claim7 := { stood := { row := termsSameUptoRow, standIns := [], harness := (true, "d51450ea32ec046e0c44df61365fd24a43b09a458279b99998467ab1b2978af6"), looks := true }, kinds := [], alts := [], laidByText := true, laidKinds := [.data, .pinned], laidTests := true, laidLooks := .later }
def TermsSameUptoCardSaid : Prop := Claim7.holds Tryd.pinned (.plain (OpenSpec.upto termsSameSpec)) termsSameUptoCard

/-- THE SECOND FORM's CARD OF 'tracerylaw11.TermsParts'. -/
def termsPartsUptoCard : Claim7 := { stood := { row := termsPartsUptoRow, standIns := [], harness := (true, "d51450ea32ec046e0c44df61365fd24a43b09a458279b99998467ab1b2978af6"), looks := true }, kinds := [], alts := [], laidByText := true, laidKinds := [.data, .pinned], laidTests := true, laidLooks := .later }
def TermsPartsUptoCardSaid : Prop := Claim7.holds Tryd.pinned (.plain (OpenSpec.upto termsPartsSpec)) termsPartsUptoCard

/-- THE SECOND FORM's CARD OF 'tracerylaw11.TermsWrites'. -/
def termsWritesUptoCard : Claim7 := { stood := { row := termsWritesUptoRow, standIns := [], harness := (true, "d51450ea32ec046e0c44df61365fd24a43b09a458279b99998467ab1b2978af6"), looks := true }, kinds := [], alts := [], laidByText := true, laidKinds := [.data, .pinned], laidTests := true, laidLooks := .later }
def TermsWritesUptoCardSaid : Prop := Claim7.holds Tryd.pinned (.plain (OpenSpec.upto termsWritesSpec)) termsWritesUptoCard

/-- THE SECOND FORM's CARD OF 'tracerylaw11.TermsBack'. -/
def termsBackUptoCard : Claim7 := { stood := { row := termsBackUptoRow, standIns := [], harness := (true, "d51450ea32ec046e0c44df61365fd24a43b09a458279b99998467ab1b2978af6"), looks := true }, kinds := [], alts := [], laidByText := true, laidKinds := [.data, .pinned], laidTests := true, laidLooks := .later }
def TermsBackUptoCardSaid : Prop := Claim7.holds Tryd.pinned (.plain (OpenSpec.upto termsBackSpec)) termsBackUptoCard

/-- THE SECOND FORM's CARD OF 'tracerylaw11.TermsBlanks'. -/
def termsBlanksUptoCard : Claim7 := { stood := { row := termsBlanksUptoRow, standIns := [], harness := (true, "d51450ea32ec046e0c44df61365fd24a43b09a458279b99998467ab1b2978af6"), looks := true }, kinds := [], alts := [], laidByText := true, laidKinds := [.data, .pinned], laidTests := true, laidLooks := .later }
def TermsBlanksUptoCardSaid : Prop := Claim7.holds Tryd.pinned (.plain (OpenSpec.upto termsBlanksSpec)) termsBlanksUptoCard

/-- THE SECOND FORM's CARD OF 'tracerylaw11.TermsPut'. -/
def termsPutUptoCard : Claim7 := { stood := { row := termsPutUptoRow, standIns := [], harness := (true, "d51450ea32ec046e0c44df61365fd24a43b09a458279b99998467ab1b2978af6"), looks := true }, kinds := [], alts := [], laidByText := true, laidKinds := [.data, .pinned], laidTests := true, laidLooks := .later }
def TermsPutUptoCardSaid : Prop := Claim7.holds Tryd.pinned (.plain (OpenSpec.upto termsPutSpec)) termsPutUptoCard

/-- THE SECOND FORM's CARD OF 'tracerylaw11.TermsApart'. -/
def termsApartUptoCard : Claim7 := { stood := { row := termsApartUptoRow, standIns := [], harness := (true, "d51450ea32ec046e0c44df61365fd24a43b09a458279b99998467ab1b2978af6"), looks := true }, kinds := [], alts := [], laidByText := true, laidKinds := [.data, .pinned], laidTests := true, laidLooks := .later }
def TermsApartUptoCardSaid : Prop := Claim7.holds Tryd.pinned (.plain (OpenSpec.upto termsApartSpec)) termsApartUptoCard

/-- THE SECOND FORM's CARD OF 'tracerylaw11.TermsWalk'. -/
def termsWalkUptoCard : Claim7 := { stood := { row := termsWalkUptoRow, standIns := [], harness := (true, "d51450ea32ec046e0c44df61365fd24a43b09a458279b99998467ab1b2978af6"), looks := true }, kinds := [], alts := [], laidByText := true, laidKinds := [.data, .pinned], laidTests := true, laidLooks := .later }
def TermsWalkUptoCardSaid : Prop := Claim7.holds Tryd.pinned (.plain (OpenSpec.upto termsWalkSpec)) termsWalkUptoCard
end Rows
end Go.Proofs.YtlkcadibjmfmcaaDoor
