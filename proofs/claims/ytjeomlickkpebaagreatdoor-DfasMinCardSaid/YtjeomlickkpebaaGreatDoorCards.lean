/-
  DERIVED. GIVEN WITH THE SEED: THE CARDS: each row of YtjeomlickkpebaaGreatDoorRows.lean that lists a variable, with what it lists TIED to the program's text (the seventh form; the later family's looks); each row that meets fmt, with fmt's text TOLD by the authors' own Lean function (tested against real Go, not proved from fmt's source: count such statements apart). THE CARD IS WHAT COUNTS. Prove the row's statement (the work); the ties are given (YtjeomlickkpebaaGreatDoorTie.lean); close each card by the builder's one call (the guide's Derived/Test/ToyasCard.lean, 'card_holds'). Laid BY PROGRAM, IN A SANDBOX (cutbox-door.mjs). By AI agents, Wed Nov 11 2026. No macro, syntax, notation, axiom, sorry.
-/
import Derived.Test.YtjeomlickkpebaaGreatDoorRows
import GoSem.ClaimSeven
namespace Go.Proofs.YtjeomlickkpebaaGreatDoor
namespace Rows

/-- THE TIED CARD OF 'limnerlaw12.DfasMin'. -/
def dfasMinCard : Claim7 := { stood := { row := dfasMinRow, standIns := [], harness := (true, "708bfc380425cd1c6bf9516ee6d9470f683b6853158038596173fc149a8503df"), looks := true }, kinds := [], alts := [], laidByText := true, laidKinds := [.data, .data, .data, .sentinel, .sentinel], laidTests := true, laidLooks := .later }
def DfasMinCardSaid : Prop := Claim7.holds Tryz.pinned (.plain (OpenSpec.ofChange dfasMinSpec)) dfasMinCard

/-- THE TIED CARD OF 'limnerlaw12.DfasMatch'. -/
def dfasMatchCard : Claim7 := { stood := { row := dfasMatchRow, standIns := [], harness := (true, "708bfc380425cd1c6bf9516ee6d9470f683b6853158038596173fc149a8503df"), looks := true }, kinds := [], alts := [], laidByText := true, laidKinds := [.data, .data, .data, .sentinel, .sentinel], laidTests := true, laidLooks := .later }
def DfasMatchCardSaid : Prop := Claim7.holds Tryz.pinned (.plain (OpenSpec.ofChange dfasMatchSpec)) dfasMatchCard

/-- THE TIED CARD OF 'limnerlaw12.DfasMake'. -/
def dfasMakeCard : Claim7 := { stood := { row := dfasMakeRow, standIns := [], harness := (true, "708bfc380425cd1c6bf9516ee6d9470f683b6853158038596173fc149a8503df"), looks := true }, kinds := [], alts := [], laidByText := true, laidKinds := [.data, .data, .data, .sentinel, .sentinel], laidTests := true, laidLooks := .later }
def DfasMakeCardSaid : Prop := Claim7.holds Tryz.pinned (.plain (OpenSpec.ofChange dfasMakeSpec)) dfasMakeCard

/-- THE TIED CARD OF 'limnerlaw12.DfasNone'. -/
def dfasNoneCard : Claim7 := { stood := { row := dfasNoneRow, standIns := [], harness := (true, "708bfc380425cd1c6bf9516ee6d9470f683b6853158038596173fc149a8503df"), looks := true }, kinds := [], alts := [], laidByText := true, laidKinds := [.data, .data, .data, .sentinel, .sentinel], laidTests := true, laidLooks := .later }
def DfasNoneCardSaid : Prop := Claim7.holds Tryz.pinned (.plain (OpenSpec.ofChange dfasNoneSpec)) dfasNoneCard

/-- THE TIED CARD OF 'limnerlaw12.DfasLeast'. -/
def dfasLeastCard : Claim7 := { stood := { row := dfasLeastRow, standIns := [], harness := (true, "708bfc380425cd1c6bf9516ee6d9470f683b6853158038596173fc149a8503df"), looks := true }, kinds := [], alts := [], laidByText := true, laidKinds := [.data, .data, .data, .sentinel, .sentinel], laidTests := true, laidLooks := .later }
def DfasLeastCardSaid : Prop := Claim7.holds Tryz.pinned (.plain (OpenSpec.ofChange dfasLeastSpec)) dfasLeastCard

/-- THE TIED CARD OF 'limnerlaw12.DfasSame'. -/
def dfasSameCard : Claim7 := { stood := { row := dfasSameRow, standIns := [], harness := (true, "708bfc380425cd1c6bf9516ee6d9470f683b6853158038596173fc149a8503df"), looks := true }, kinds := [], alts := [], laidByText := true, laidKinds := [.data, .data, .data, .sentinel, .sentinel], laidTests := true, laidLooks := .later }
def DfasSameCardSaid : Prop := Claim7.holds Tryz.pinned (.plain (OpenSpec.ofChange dfasSameSpec)) dfasSameCard

/-- THE TIED CARD OF 'limnerlaw12.DfasNfa'. -/
def dfasNfaCard : Claim7 := { stood := { row := dfasNfaRow, standIns := [], harness := (true, "708bfc380425cd1c6bf9516ee6d9470f683b6853158038596173fc149a8503df"), looks := true }, kinds := [], alts := [], laidByText := true, laidKinds := [.data, .data, .data, .sentinel, .sentinel], laidTests := true, laidLooks := .later }
def DfasNfaCardSaid : Prop := Claim7.holds Tryz.pinned (.plain (OpenSpec.ofChange dfasNfaSpec)) dfasNfaCard

/-- THE SECOND FORM's CARD OF 'limnerlaw12.DfasMin'. -/
def dfasMinUptoCard : Claim7 := { stood := { row := dfasMinUptoRow, standIns := [], harness := (true, "708bfc380425cd1c6bf9516ee6d9470f683b6853158038596173fc149a8503df"), looks := true }, kinds := [], alts := [], laidByText := true, laidKinds := [.data, .data, .data, .sentinel, .sentinel], laidTests := true, laidLooks := .later }
def DfasMinUptoCardSaid : Prop := Claim7.holds Tryz.pinned (.plain (OpenSpec.upto dfasMinSpec)) dfasMinUptoCard

/-- THE SECOND FORM's CARD OF 'limnerlaw12.DfasMatch'. -/
def dfasMatchUptoCard : Claim7 := { stood := { row := dfasMatchUptoRow, standIns := [], harness := (true, "708bfc380425cd1c6bf9516ee6d9470f683b6853158038596173fc149a8503df"), looks := true }, kinds := [], alts := [], laidByText := true, laidKinds := [.data, .data, .data, .sentinel, .sentinel], laidTests := true, laidLooks := .later }
def DfasMatchUptoCardSaid : Prop := Claim7.holds Tryz.pinned (.plain (OpenSpec.upto dfasMatchSpec)) dfasMatchUptoCard

/-- THE SECOND FORM's CARD OF 'limnerlaw12.DfasMake'. -/
def dfasMakeUptoCard : Claim7 := { stood := { row := dfasMakeUptoRow, standIns := [], harness := (true, "708bfc380425cd1c6bf9516ee6d9470f683b6853158038596173fc149a8503df"), looks := true }, kinds := [], alts := [], laidByText := true, laidKinds := [.data, .data, .data, .sentinel, .sentinel], laidTests := true, laidLooks := .later }
def DfasMakeUptoCardSaid : Prop := Claim7.holds Tryz.pinned (.plain (OpenSpec.upto dfasMakeSpec)) dfasMakeUptoCard

/-- THE SECOND FORM's CARD OF 'limnerlaw12.DfasNone'. -/
def dfasNoneUptoCard : Claim7 := { stood := { row := dfasNoneUptoRow, standIns := [], harness := (true, "708bfc380425cd1c6bf9516ee6d9470f683b6853158038596173fc149a8503df"), looks := true }, kinds := [], alts := [], laidByText := true, laidKinds := [.data, .data, .data, .sentinel, .sentinel], laidTests := true, laidLooks := .later }
def DfasNoneUptoCardSaid : Prop := Claim7.holds Tryz.pinned (.plain (OpenSpec.upto dfasNoneSpec)) dfasNoneUptoCard

/-- THE SECOND FORM's CARD OF 'limnerlaw12.DfasLeast'. -/
def dfasLeastUptoCard : Claim7 := { stood := { row := dfasLeastUptoRow, standIns := [], harness := (true, "708bfc380425cd1c6bf9516ee6d9470f683b6853158038596173fc149a8503df"), looks := true }, kinds := [], alts := [], laidByText := true, laidKinds := [.data, .data, .data, .sentinel, .sentinel], laidTests := true, laidLooks := .later }
def DfasLeastUptoCardSaid : Prop := Claim7.holds Tryz.pinned (.plain (OpenSpec.upto dfasLeastSpec)) dfasLeastUptoCard

/-- THE SECOND FORM's CARD OF 'limnerlaw12.DfasSame'. -/
def dfasSameUptoCard : Claim7 := { stood := { row := dfasSameUptoRow, standIns := [], harness := (true, "708bfc380425cd1c6bf9516ee6d9470f683b6853158038596173fc149a8503df"), looks := true }, kinds := [], alts := [], laidByText := true, laidKinds := [.data, .data, .data, .sentinel, .sentinel], laidTests := true, laidLooks := .later }
def DfasSameUptoCardSaid : Prop := Claim7.holds Tryz.pinned (.plain (OpenSpec.upto dfasSameSpec)) dfasSameUptoCard

/-- THE SECOND FORM's CARD OF 'limnerlaw12.DfasNfa'. -/
def dfasNfaUptoCard : Claim7 := { stood := { row := dfasNfaUptoRow, standIns := [], harness := (true, "708bfc380425cd1c6bf9516ee6d9470f683b6853158038596173fc149a8503df"), looks := true }, kinds := [], alts := [], laidByText := true, laidKinds := [.data, .data, .data, .sentinel, .sentinel], laidTests := true, laidLooks := .later }
def DfasNfaUptoCardSaid : Prop := Claim7.holds Tryz.pinned (.plain (OpenSpec.upto dfasNfaSpec)) dfasNfaUptoCard
end Rows
end Go.Proofs.YtjeomlickkpebaaGreatDoor
