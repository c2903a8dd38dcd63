/-
  DERIVED. GIVEN WITH THE SEED: THE CARDS: each row of YthokamikejnbeaaDoorRows.lean that lists a variable, with what it lists TIED to the program's text (the seventh form; the later family's looks); each row that meets fmt, with fmt's text TOLD by the authors' own Lean function (tested against real Go, not proved from fmt's source: count such statements apart). THE CARD IS WHAT COUNTS. Prove the row's statement (the work); the ties are given (YthokamikejnbeaaDoorTie.lean); close each card by the builder's one call (the guide's Derived/Test/ToyasCard.lean, 'card_holds'). Laid BY PROGRAM, IN A SANDBOX (cutbox-door.mjs). By AI agents, Wed Nov 11 2026. No macro, syntax, notation, axiom, sorry.
-/
import Derived.Test.YthokamikejnbeaaDoorRows
import GoSem.ClaimSeven
namespace Go.Proofs.YthokamikejnbeaaDoor
namespace Rows

/-- THE TIED CARD OF 'limnerlaw10.RegsParse'. -/
def regsParseCard : Claim7 := { stood := { row := regsParseRow, standIns := [], harness := (true, "c0a8a9813a55450332a25802cbd2a65c3b7190ced648dc35f7d04375f6ea6aee"), looks := true }, kinds := [], alts := [], laidByText := true, laidKinds := [.data, .data, .data, .sentinel, .sentinel], laidTests := true, laidLooks := .later }
def RegsParseCardSaid : Prop := Claim7.holds Tryd.pinned (.plain (OpenSpec.ofChange regsParseSpec)) regsParseCard

/-- THE TIED CARD OF 'limnerlaw10.RegsShow'. -/
def regsShowCard : Claim7 := { stood := { row := regsShowRow, standIns := [], harness := (true, "c0a8a9813a55450332a25802cbd2a65c3b7190ced648dc35f7d04375f6ea6aee"), looks := true }, kinds := [], alts := [], laidByText := true, laidKinds := [.data, .data, .data, .sentinel, .sentinel], laidTests := true, laidLooks := .later }
def RegsShowCardSaid : Prop := Claim7.holds Tryd.pinned (.plain (OpenSpec.ofChange regsShowSpec)) regsShowCard

/-- THE TIED CARD OF 'limnerlaw10.RegsBack'. -/
def regsBackCard : Claim7 := { stood := { row := regsBackRow, standIns := [], harness := (true, "c0a8a9813a55450332a25802cbd2a65c3b7190ced648dc35f7d04375f6ea6aee"), looks := true }, kinds := [], alts := [], laidByText := true, laidKinds := [.data, .data, .data, .sentinel, .sentinel], laidTests := true, laidLooks := .later }
def RegsBackCardSaid : Prop := Claim7.holds Tryd.pinned (.plain (OpenSpec.ofChange regsBackSpec)) regsBackCard

/-- THE TIED CARD OF 'limnerlaw10.RegsNode'. -/
def regsNodeCard : Claim7 := { stood := { row := regsNodeRow, standIns := [], harness := (true, "c0a8a9813a55450332a25802cbd2a65c3b7190ced648dc35f7d04375f6ea6aee"), looks := true }, kinds := [], alts := [], laidByText := true, laidKinds := [.data, .data, .data, .sentinel, .sentinel], laidTests := true, laidLooks := .later }
def RegsNodeCardSaid : Prop := Claim7.holds Tryd.pinned (.plain (OpenSpec.ofChange regsNodeSpec)) regsNodeCard

/-- THE TIED CARD OF 'limnerlaw10.RegsSet'. -/
def regsSetCard : Claim7 := { stood := { row := regsSetRow, standIns := [], harness := (true, "c0a8a9813a55450332a25802cbd2a65c3b7190ced648dc35f7d04375f6ea6aee"), looks := true }, kinds := [], alts := [], laidByText := true, laidKinds := [.data, .data, .data, .sentinel, .sentinel], laidTests := true, laidLooks := .later }
def RegsSetCardSaid : Prop := Claim7.holds Tryd.pinned (.plain (OpenSpec.ofChange regsSetSpec)) regsSetCard

/-- THE SECOND FORM's CARD OF 'limnerlaw10.RegsParse'. -/
def regsParseUptoCard : Claim7 := { stood := { row := regsParseUptoRow, standIns := [], harness := (true, "c0a8a9813a55450332a25802cbd2a65c3b7190ced648dc35f7d04375f6ea6aee"), looks := true }, kinds := [], alts := [], laidByText := true, laidKinds := [.data, .data, .data, .sentinel, .sentinel], laidTests := true, laidLooks := .later }
def RegsParseUptoCardSaid : Prop := Claim7.holds Tryd.pinned (.plain (OpenSpec.upto regsParseSpec)) regsParseUptoCard

/-- THE SECOND FORM's CARD OF 'limnerlaw10.RegsShow'. -/
def regsShowUptoCard : Claim7 := { stood := { row := regsShowUptoRow, standIns := [], harness := (true, "c0a8a9813a55450332a25802cbd2a65c3b7190ced648dc35f7d04375f6ea6aee"), looks := true }, kinds := [], alts := [], laidByText := true, laidKinds := [.data, .data, .data, .sentinel, .sentinel], laidTests := true, laidLooks := .later }
def RegsShowUptoCardSaid : Prop := Claim7.holds Tryd.pinned (.plain (OpenSpec.upto regsShowSpec)) regsShowUptoCard

/-- THE SECOND FORM's CARD OF 'limnerlaw10.RegsBack'. -/
def regsBackUptoCard : Claim7 := { stood := { row := regsBackUptoRow, standIns := [], harness := (true, "c0a8a9813a55450332a25802cbd2a65c3b7190ced648dc35f7d04375f6ea6aee"), looks := true }, kinds := [], alts := [], laidByText := true, laidKinds := [.data, .data, .data, .sentinel, .sentinel], laidTests := true, laidLooks := .later }
def RegsBackUptoCardSaid : Prop := Claim7.holds Tryd.pinned (.plain (OpenSpec.upto regsBackSpec)) regsBackUptoCard

/-- THE SECOND FORM's CARD OF 'limnerlaw10.RegsNode'. -/
def regsNodeUptoCard : Claim7 := { stood := { row := regsNodeUptoRow, standIns := [], harness := (true, "c0a8a9813a55450332a25802cbd2a65c3b7190ced648dc35f7d04375f6ea6aee"), looks := true }, kinds := [], alts := [], laidByText := true, laidKinds := [.data, .data, .data, .sentinel, .sentinel], laidTests := true, laidLooks := .later }
def RegsNodeUptoCardSaid : Prop := Claim7.holds Tryd.pinned (.plain (OpenSpec.upto regsNodeSpec)) regsNodeUptoCard

/-- THE SECOND FORM's CARD OF 'limnerlaw10.RegsSet'. -/
def regsSetUptoCard : Claim7 := { stood := { row := regsSetUptoRow, standIns := [], harness := (true, "c0a8a9813a55450332a25802cbd2a65c3b7190ced648dc35f7d04375f6ea6aee"), looks := true }, kinds := [], alts := [], laidByText := true, laidKinds := [.data, .data, .data, .sentinel, .sentinel], laidTests := true, laidLooks := .later }
def RegsSetUptoCardSaid : Prop := Claim7.holds Tryd.pinned (.plain (OpenSpec.upto regsSetSpec)) regsSetUptoCard
end Rows
end Go.Proofs.YthokamikejnbeaaDoor
