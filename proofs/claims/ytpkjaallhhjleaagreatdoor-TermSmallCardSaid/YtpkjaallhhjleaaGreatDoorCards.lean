/-
  DERIVED. GIVEN WITH THE SEED: THE CARDS: each row of YtpkjaallhhjleaaGreatDoorRows.lean that lists a variable, with what it lists TIED to the program's text (the seventh form; the later family's looks); each row that meets fmt, with fmt's text TOLD by the authors' own Lean function (tested against real Go, not proved from fmt's source: count such statements apart). THE CARD IS WHAT COUNTS. Prove the row's statement (the work); the ties are given (YtpkjaallhhjleaaGreatDoorTie.lean); close each card by the builder's one call (the guide's Derived/Test/ToyasCard.lean, 'card_holds'). Laid BY PROGRAM, IN A SANDBOX (cutbox-door.mjs). By AI agents, Wed Nov 11 2026. No macro, syntax, notation, axiom, sorry.
-/
import Derived.Test.YtpkjaallhhjleaaGreatDoorRows
import GoSem.ClaimSeven
namespace Go.Proofs.YtpkjaallhhjleaaGreatDoor
namespace Rows

/-- THE TIED CARD OF 'limnerlaw08.TermSmall'. -/
def termSmallCard : Claim7 := { stood := { row := termSmallRow, standIns := [], harness := (true, "c347bbaa82ca622a91b05c0d90b93e40e255e04eb370fc9bfa46f8f6da87710e"), looks := false }, kinds := [], alts := [], laidByText := true, laidKinds := [.data, .data, .data, .data, .data, .data, .data, .data, .pinned], laidTests := true, laidLooks := .later }
def TermSmallCardSaid : Prop := Claim7.holds Tryz.pinned (.plain (OpenSpec.ofChange termSmallSpec)) termSmallCard

/-- THE TIED CARD OF 'limnerlaw08.TermNone'. -/
def termNoneCard : Claim7 := { stood := { row := termNoneRow, standIns := [], harness := (true, "c347bbaa82ca622a91b05c0d90b93e40e255e04eb370fc9bfa46f8f6da87710e"), looks := false }, kinds := [], alts := [], laidByText := true, laidKinds := [.data, .data, .data, .data, .data, .data, .data, .data, .pinned], laidTests := true, laidLooks := .later }
def TermNoneCardSaid : Prop := Claim7.holds Tryz.pinned (.plain (OpenSpec.ofChange termNoneSpec)) termNoneCard

/-- THE TIED CARD OF 'limnerlaw08.TermValid'. -/
def termValidCard : Claim7 := { stood := { row := termValidRow, standIns := [], harness := (true, "c347bbaa82ca622a91b05c0d90b93e40e255e04eb370fc9bfa46f8f6da87710e"), looks := false }, kinds := [], alts := [], laidByText := true, laidKinds := [.data, .data, .data, .data, .data, .data, .data, .data, .pinned], laidTests := true, laidLooks := .later }
def TermValidCardSaid : Prop := Claim7.holds Tryz.pinned (.plain (OpenSpec.ofChange termValidSpec)) termValidCard

/-- THE TIED CARD OF 'limnerlaw08.TermClear'. -/
def termClearCard : Claim7 := { stood := { row := termClearRow, standIns := [], harness := (true, "c347bbaa82ca622a91b05c0d90b93e40e255e04eb370fc9bfa46f8f6da87710e"), looks := false }, kinds := [], alts := [], laidByText := true, laidKinds := [.data, .data, .data, .data, .data, .data, .data, .data, .pinned], laidTests := true, laidLooks := .later }
def TermClearCardSaid : Prop := Claim7.holds Tryz.pinned (.plain (OpenSpec.ofChange termClearSpec)) termClearCard

/-- THE TIED CARD OF 'limnerlaw08.TermText'. -/
def termTextCard : Claim7 := { stood := { row := termTextRow, standIns := [], harness := (true, "c347bbaa82ca622a91b05c0d90b93e40e255e04eb370fc9bfa46f8f6da87710e"), looks := false }, kinds := [], alts := [], laidByText := true, laidKinds := [.data, .data, .data, .data, .data, .data, .data, .data, .pinned], laidTests := true, laidLooks := .later }
def TermTextCardSaid : Prop := Claim7.holds Tryz.pinned (.plain (OpenSpec.ofChange termTextSpec)) termTextCard

/-- THE SECOND FORM's CARD OF 'limnerlaw08.TermSmall'. -/
def termSmallUptoCard : Claim7 := { stood := { row := termSmallUptoRow, standIns := [], harness := (true, "c347bbaa82ca622a91b05c0d90b93e40e255e04eb370fc9bfa46f8f6da87710e"), looks := false }, kinds := [], alts := [], laidByText := true, laidKinds := [.data, .data, .data, .data, .data, .data, .data, .data, .pinned], laidTests := true, laidLooks := .later }
def TermSmallUptoCardSaid : Prop := Claim7.holds Tryz.pinned (.plain (OpenSpec.upto termSmallSpec)) termSmallUptoCard

/-- THE SECOND FORM's CARD OF 'limnerlaw08.TermNone'. -/
def termNoneUptoCard : Claim7 := { stood := { row := termNoneUptoRow, standIns := [], harness := (true, "c347bbaa82ca622a91b05c0d90b93e40e255e04eb370fc9bfa46f8f6da87710e"), looks := false }, kinds := [], alts := [], laidByText := true, laidKinds := [.data, .data, .data, .data, .data, .data, .data, .data, .pinned], laidTests := true, laidLooks := .later }
def TermNoneUptoCardSaid : Prop := Claim7.holds Tryz.pinned (.plain (OpenSpec.upto termNoneSpec)) termNoneUptoCard

/-- THE SECOND FORM's CARD OF 'limnerlaw08.TermValid'. -/
def termValidUptoCard : Claim7 := { stood := { row := termValidUptoRow, standIns := [], harness := (true, "c347bbaa82ca622a91b05c0d90b93e40e255e04eb370fc9bfa46f8f6da87710e"), looks := false }, kinds := [], alts := [], laidByText := true, laidKinds := [.data, .data, .data, .data, .data, .data, .data, .data, .pinned], laidTests := true, laidLooks := .later }
def TermValidUptoCardSaid : Prop := Claim7.holds Tryz.pinned (.plain (OpenSpec.upto termValidSpec)) termValidUptoCard

/-- THE SECOND FORM's CARD OF 'limnerlaw08.TermClear'. -/
def termClearUptoCard : Claim7 := { stood := { row := termClearUptoRow, standIns := [], harness := (true, "c347bbaa82ca622a91b05c0d90b93e40e255e04eb370fc9bfa46f8f6da87710e"), looks := false }, kinds := [], alts := [], laidByText := true, laidKinds := [.data, .data, .data, .data, .data, .data, .data, .data, .pinned], laidTests := true, laidLooks := .later }
def TermClearUptoCardSaid : Prop := Claim7.holds Tryz.pinned (.plain (OpenSpec.upto termClearSpec)) termClearUptoCard

/-- THE SECOND FORM's CARD OF 'limnerlaw08.TermText'. -/
def termTextUptoCard : Claim7 := { stood := { row := termTextUptoRow, standIns := [], harness := (true, "c347bbaa82ca622a91b05c0d90b93e40e255e04eb370fc9bfa46f8f6da87710e"), looks := false }, kinds := [], alts := [], laidByText := true, laidKinds := [.data, .data, .data, .data, .data, .data, .data, .data, .pinned], laidTests := true, laidLooks := .later }
def TermTextUptoCardSaid : Prop := Claim7.holds Tryz.pinned (.plain (OpenSpec.upto termTextSpec)) termTextUptoCard
end Rows
end Go.Proofs.YtpkjaallhhjleaaGreatDoor
