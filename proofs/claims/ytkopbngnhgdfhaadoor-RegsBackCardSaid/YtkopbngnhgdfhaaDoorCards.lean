/-
  DERIVED. GIVEN WITH THE SEED: THE CARDS: each row of YtkopbngnhgdfhaaDoorRows.lean that lists a variable, with what it lists TIED to the program's text (the seventh form; the later family's looks); each row that meets fmt, with fmt's text TOLD by the authors' own Lean function (tested against real Go, not proved from fmt's source: count such statements apart). THE CARD IS WHAT COUNTS. Prove the row's statement (the work); the ties are given (YtkopbngnhgdfhaaDoorTie.lean); close each card by the builder's one call (the guide's Derived/Test/ToyasCard.lean, 'card_holds'). Laid BY PROGRAM, IN A SANDBOX (cutbox-door.mjs). By AI agents, Wed Nov 11 2026. No macro, syntax, notation, axiom, sorry.
-/
import Derived.Test.YtkopbngnhgdfhaaDoorRows
import GoSem.ClaimSeven
namespace Go.Proofs.YtkopbngnhgdfhaaDoor
namespace Rows

/-- THE TIED CARD OF 'limnerlaw10.RegsBack'. -/
def regsBackCard : Claim7 := { stood := { row := regsBackRow, standIns := [], harness := (true, "a093ec49e3b7689858d142ecd6d1841582f0ecf6b8d457fc6c5e7e5c29492156"), looks := true }, kinds := [], alts := [], laidByText := true, laidKinds := [.data, .data, .data, .sentinel, .sentinel], laidTests := true, laidLooks := .later }
def RegsBackCardSaid : Prop := Claim7.holds Tryd.pinned (.plain (OpenSpec.ofChange regsBackSpec)) regsBackCard

/-- THE TIED CARD OF 'limnerlaw11.NfasMake'. -/
def nfasMakeCard : Claim7 := { stood := { row := nfasMakeRow, standIns := [], harness := (true, "a093ec49e3b7689858d142ecd6d1841582f0ecf6b8d457fc6c5e7e5c29492156"), looks := true }, kinds := [], alts := [], laidByText := true, laidKinds := [.data, .data, .data, .sentinel, .sentinel], laidTests := true, laidLooks := .later }
def NfasMakeCardSaid : Prop := Claim7.holds Tryd.pinned (.plain (OpenSpec.ofChange nfasMakeSpec)) nfasMakeCard

/-- THE TIED CARD OF 'limnerlaw11.NfasMatch'. -/
def nfasMatchCard : Claim7 := { stood := { row := nfasMatchRow, standIns := [], harness := (true, "a093ec49e3b7689858d142ecd6d1841582f0ecf6b8d457fc6c5e7e5c29492156"), looks := true }, kinds := [], alts := [], laidByText := true, laidKinds := [.data, .data, .data, .sentinel, .sentinel], laidTests := true, laidLooks := .later }
def NfasMatchCardSaid : Prop := Claim7.holds Tryd.pinned (.plain (OpenSpec.ofChange nfasMatchSpec)) nfasMatchCard

/-- THE TIED CARD OF 'limnerlaw11.NfasNone'. -/
def nfasNoneCard : Claim7 := { stood := { row := nfasNoneRow, standIns := [], harness := (true, "a093ec49e3b7689858d142ecd6d1841582f0ecf6b8d457fc6c5e7e5c29492156"), looks := true }, kinds := [], alts := [], laidByText := true, laidKinds := [.data, .data, .data, .sentinel, .sentinel], laidTests := true, laidLooks := .later }
def NfasNoneCardSaid : Prop := Claim7.holds Tryd.pinned (.plain (OpenSpec.ofChange nfasNoneSpec)) nfasNoneCard

/-- THE TIED CARD OF 'limnerlaw11.NfasMore'. -/
def nfasMoreCard : Claim7 := { stood := { row := nfasMoreRow, standIns := [], harness := (true, "a093ec49e3b7689858d142ecd6d1841582f0ecf6b8d457fc6c5e7e5c29492156"), looks := true }, kinds := [], alts := [], laidByText := true, laidKinds := [.data, .data, .data, .sentinel, .sentinel], laidTests := true, laidLooks := .later }
def NfasMoreCardSaid : Prop := Claim7.holds Tryd.pinned (.plain (OpenSpec.ofChange nfasMoreSpec)) nfasMoreCard

/-- THE TIED CARD OF 'limnerlaw11.NfasText'. -/
def nfasTextCard : Claim7 := { stood := { row := nfasTextRow, standIns := [], harness := (true, "a093ec49e3b7689858d142ecd6d1841582f0ecf6b8d457fc6c5e7e5c29492156"), looks := true }, kinds := [], alts := [], laidByText := true, laidKinds := [.data, .data, .data, .sentinel, .sentinel], laidTests := true, laidLooks := .later }
def NfasTextCardSaid : Prop := Claim7.holds Tryd.pinned (.plain (OpenSpec.ofChange nfasTextSpec)) nfasTextCard

/-- THE SECOND FORM's CARD OF 'limnerlaw10.RegsBack'. -/
def regsBackUptoCard : Claim7 := { stood := { row := regsBackUptoRow, standIns := [], harness := (true, "a093ec49e3b7689858d142ecd6d1841582f0ecf6b8d457fc6c5e7e5c29492156"), looks := true }, kinds := [], alts := [], laidByText := true, laidKinds := [.data, .data, .data, .sentinel, .sentinel], laidTests := true, laidLooks := .later }
def RegsBackUptoCardSaid : Prop := Claim7.holds Tryd.pinned (.plain (OpenSpec.upto regsBackSpec)) regsBackUptoCard

/-- THE SECOND FORM's CARD OF 'limnerlaw11.NfasMake'. -/
def nfasMakeUptoCard : Claim7 := { stood := { row := nfasMakeUptoRow, standIns := [], harness := (true, "a093ec49e3b7689858d142ecd6d1841582f0ecf6b8d457fc6c5e7e5c29492156"), looks := true }, kinds := [], alts := [], laidByText := true, laidKinds := [.data, .data, .data, .sentinel, .sentinel], laidTests := true, laidLooks := .later }
def NfasMakeUptoCardSaid : Prop := Claim7.holds Tryd.pinned (.plain (OpenSpec.upto nfasMakeSpec)) nfasMakeUptoCard

/-- THE SECOND FORM's CARD OF 'limnerlaw11.NfasMatch'. -/
def nfasMatchUptoCard : Claim7 := { stood := { row := nfasMatchUptoRow, standIns := [], harness := (true, "a093ec49e3b7689858d142ecd6d1841582f0ecf6b8d457fc6c5e7e5c29492156"), looks := true }, kinds := [], alts := [], laidByText := true, laidKinds := [.data, .data, .data, .sentinel, .sentinel], laidTests := true, laidLooks := .later }
def NfasMatchUptoCardSaid : Prop := Claim7.holds Tryd.pinned (.plain (OpenSpec.upto nfasMatchSpec)) nfasMatchUptoCard

/-- THE SECOND FORM's CARD OF 'limnerlaw11.NfasNone'. -/
def nfasNoneUptoCard : Claim7 := { stood := { row := nfasNoneUptoRow, standIns := [], harness := (true, "a093ec49e3b7689858d142ecd6d1841582f0ecf6b8d457fc6c5e7e5c29492156"), looks := true }, kinds := [], alts := [], laidByText := true, laidKinds := [.data, .data, .data, .sentinel, .sentinel], laidTests := true, laidLooks := .later }
def NfasNoneUptoCardSaid : Prop := Claim7.holds Tryd.pinned (.plain (OpenSpec.upto nfasNoneSpec)) nfasNoneUptoCard

/-- THE SECOND FORM's CARD OF 'limnerlaw11.NfasMore'. -/
def nfasMoreUptoCard : Claim7 := { stood := { row := nfasMoreUptoRow, standIns := [], harness := (true, "a093ec49e3b7689858d142ecd6d1841582f0ecf6b8d457fc6c5e7e5c29492156"), looks := true }, kinds := [], alts := [], laidByText := true, laidKinds := [.data, .data, .data, .sentinel, .sentinel], laidTests := true, laidLooks := .later }
def NfasMoreUptoCardSaid : Prop := Claim7.holds Tryd.pinned (.plain (OpenSpec.upto nfasMoreSpec)) nfasMoreUptoCard

/-- THE SECOND FORM's CARD OF 'limnerlaw11.NfasText'. -/
def nfasTextUptoCard : Claim7 := { stood := { row := nfasTextUptoRow, standIns := [], harness := (true, "a093ec49e3b7689858d142ecd6d1841582f0ecf6b8d457fc6c5e7e5c29492156"), looks := true }, kinds := [], alts := [], laidByText := true, laidKinds := [.data, .data, .data, .sentinel, .sentinel], laidTests := true, laidLooks := .later }
def NfasTextUptoCardSaid : Prop := Claim7.holds Tryd.pinned (.plain (OpenSpec.upto nfasTextSpec)) nfasTextUptoCard
end Rows
end Go.Proofs.YtkopbngnhgdfhaaDoor
