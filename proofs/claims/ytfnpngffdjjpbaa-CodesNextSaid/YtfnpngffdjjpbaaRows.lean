/-
  No cell of these rows narrows 'for every input' (looked for: loops, veiled, ifaces, maps, wideKeys, modest, calm, conditions, laid).
  DERIVED. THE GIVEN ROWS OF THIS SEAT. 6 by the template 'for every input the law returns true; each argument reads behind the call as it read before'; 0 by the template 'total and deterministic' (their statements: YtfnpngffdjjpbaaTotals.lean).
  GIVEN WITH THE SEED: the statements are not yours to turn. If you find one false, say at which input.
  Laid BY PROGRAM, IN A SANDBOX (cutbox-rows.mjs): the forced cells as the released guide's own fill.sh prints them over the translation 1672b6a24bef7f90… (all of the seat's roots in one cut). By AI agents, Wed Nov 11 2026. No macro, syntax, notation, axiom, sorry.
-/
import Derived.Test.YtfnpngffdjjpbaaChecked
import GoSem.Claim
import GoSem.ClaimJoined
import GoSem.ClaimMapViews
import Derived.JoinedTies
import Derived.KernelRfl
namespace Go.Proofs.Ytfnpngffdjjpbaa
/- THE CELL 'sum', in the pinned program and in every row, IS THE sha256 OF THE DUMP (.gsa) THAT YtfnpngffdjjpbaaProg.lean LOADS. Nothing in Lean hashes anything: it is a label: what it is worth is what the hold of that sum in a sandbox is worth. -/
noncomputable def Try.pinned : Pinned := { name := "ytfnpngffdjjpbaa", sum := "1672b6a24bef7f90e9a971939fd375e3c1b8ae7bf9207544e16c7dd490f9c3d6", checked := Try.checked }
namespace Rows
def none {H : Type} : Left H := { results := [], args := [] }

/-- 'limnerlaw01.CodesNext': WHATEVER THE INPUT: true; the input reads as it did. -/
def codesNextSpec : ChangeSpec := { name := "codesNext", fn := fun _ => fun
  | [d1, d2] => { results := [.lit (.bool true)], args := [d1, d2] }
  | _ => none }
def codesNextRow : OpenClaim := { program := "ytfnpngffdjjpbaa", sum := "1672b6a24bef7f90e9a971939fd375e3c1b8ae7bf9207544e16c7dd490f9c3d6", func := "limner/limnerlaw01.CodesNext", spec := "codesNext", apart := false }
def CodesNextSaid : Prop := codesNextRow.holds Try.pinned (OpenSpec.ofChange codesNextSpec)

/-- ITS FALSE NEIGHBOUR: 'it returns false'. Refute it at one input. -/
def codesNextWrong : ChangeSpec := { name := "codesNext", fn := fun _ => fun
  | [d1, d2] => { results := [.lit (.bool false)], args := [d1, d2] }
  | _ => none }
def CodesNextWrongFalsely : Prop := codesNextRow.holds Try.pinned (OpenSpec.ofChange codesNextWrong)

/-- 'limnerlaw01.CodesList': WHATEVER THE INPUT: true; the input reads as it did. -/
def codesListSpec : ChangeSpec := { name := "codesList", fn := fun _ => fun
  | [d] => { results := [.lit (.bool true)], args := [d] }
  | _ => none }
def codesListRow : OpenClaim := { program := "ytfnpngffdjjpbaa", sum := "1672b6a24bef7f90e9a971939fd375e3c1b8ae7bf9207544e16c7dd490f9c3d6", func := "limner/limnerlaw01.CodesList", spec := "codesList", apart := false }
def CodesListSaid : Prop := codesListRow.holds Try.pinned (OpenSpec.ofChange codesListSpec)

/-- ITS FALSE NEIGHBOUR: 'it returns false'. Refute it at one input. -/
def codesListWrong : ChangeSpec := { name := "codesList", fn := fun _ => fun
  | [d] => { results := [.lit (.bool false)], args := [d] }
  | _ => none }
def CodesListWrongFalsely : Prop := codesListRow.holds Try.pinned (OpenSpec.ofChange codesListWrong)

/-- 'limnerlaw01.CodesPut': WHATEVER THE INPUT: true; the input reads as it did. -/
def codesPutSpec : ChangeSpec := { name := "codesPut", fn := fun _ => fun
  | [d] => { results := [.lit (.bool true)], args := [d] }
  | _ => none }
def codesPutRow : OpenClaim := { program := "ytfnpngffdjjpbaa", sum := "1672b6a24bef7f90e9a971939fd375e3c1b8ae7bf9207544e16c7dd490f9c3d6", func := "limner/limnerlaw01.CodesPut", spec := "codesPut", apart := false }
def CodesPutSaid : Prop := codesPutRow.holds Try.pinned (OpenSpec.ofChange codesPutSpec)

/-- ITS FALSE NEIGHBOUR: 'it returns false'. Refute it at one input. -/
def codesPutWrong : ChangeSpec := { name := "codesPut", fn := fun _ => fun
  | [d] => { results := [.lit (.bool false)], args := [d] }
  | _ => none }
def CodesPutWrongFalsely : Prop := codesPutRow.holds Try.pinned (OpenSpec.ofChange codesPutWrong)

/-- 'limnerlaw01.CodesBack': WHATEVER THE INPUT: true; the input reads as it did. -/
def codesBackSpec : ChangeSpec := { name := "codesBack", fn := fun _ => fun
  | [d1, d2, d3] => { results := [.lit (.bool true)], args := [d1, d2, d3] }
  | _ => none }
def codesBackRow : OpenClaim := { program := "ytfnpngffdjjpbaa", sum := "1672b6a24bef7f90e9a971939fd375e3c1b8ae7bf9207544e16c7dd490f9c3d6", func := "limner/limnerlaw01.CodesBack", spec := "codesBack", apart := false }
def CodesBackSaid : Prop := codesBackRow.holds Try.pinned (OpenSpec.ofChange codesBackSpec)

/-- ITS FALSE NEIGHBOUR: 'it returns false'. Refute it at one input. -/
def codesBackWrong : ChangeSpec := { name := "codesBack", fn := fun _ => fun
  | [d1, d2, d3] => { results := [.lit (.bool false)], args := [d1, d2, d3] }
  | _ => none }
def CodesBackWrongFalsely : Prop := codesBackRow.holds Try.pinned (OpenSpec.ofChange codesBackWrong)

/-- 'limnerlaw01.CodesParts': WHATEVER THE INPUT: true; the input reads as it did. -/
def codesPartsSpec : ChangeSpec := { name := "codesParts", fn := fun _ => fun
  | [d] => { results := [.lit (.bool true)], args := [d] }
  | _ => none }
def codesPartsRow : OpenClaim := { program := "ytfnpngffdjjpbaa", sum := "1672b6a24bef7f90e9a971939fd375e3c1b8ae7bf9207544e16c7dd490f9c3d6", func := "limner/limnerlaw01.CodesParts", spec := "codesParts", apart := false }
def CodesPartsSaid : Prop := codesPartsRow.holds Try.pinned (OpenSpec.ofChange codesPartsSpec)

/-- ITS FALSE NEIGHBOUR: 'it returns false'. Refute it at one input. -/
def codesPartsWrong : ChangeSpec := { name := "codesParts", fn := fun _ => fun
  | [d] => { results := [.lit (.bool false)], args := [d] }
  | _ => none }
def CodesPartsWrongFalsely : Prop := codesPartsRow.holds Try.pinned (OpenSpec.ofChange codesPartsWrong)

/-- 'limnerlaw01.CodesJoin': WHATEVER THE INPUT: true; the input reads as it did. -/
def codesJoinSpec : ChangeSpec := { name := "codesJoin", fn := fun _ => fun
  | [d1, d2] => { results := [.lit (.bool true)], args := [d1, d2] }
  | _ => none }
def codesJoinRow : OpenClaim := { program := "ytfnpngffdjjpbaa", sum := "1672b6a24bef7f90e9a971939fd375e3c1b8ae7bf9207544e16c7dd490f9c3d6", func := "limner/limnerlaw01.CodesJoin", spec := "codesJoin", apart := false }
def CodesJoinSaid : Prop := codesJoinRow.holds Try.pinned (OpenSpec.ofChange codesJoinSpec)

/-- ITS FALSE NEIGHBOUR: 'it returns false'. Refute it at one input. -/
def codesJoinWrong : ChangeSpec := { name := "codesJoin", fn := fun _ => fun
  | [d1, d2] => { results := [.lit (.bool false)], args := [d1, d2] }
  | _ => none }
def CodesJoinWrongFalsely : Prop := codesJoinRow.holds Try.pinned (OpenSpec.ofChange codesJoinWrong)

/- THE SECOND FORM. 'bulk': how many values and letters a reading holds, each counted each time it is reached (what is shared counts as often as it is met; a slice's spare places count too). A statement '..UptoSaid' is the law's where the arguments, and the package variables that the reading takes, are together of bulk at most 1048576: NARROWER than '..Said'. Prove '..Said' where nothing that the law and all that it calls make is longer than what came in: it says more and counts as full. Else prove '..UptoSaid'. A law counts once. -/
mutual
def uptoBulk {H : Type} : DataW H → Nat
  | .lit (.string bytes) => bytes.length + 1
  | .lit _ => 1
  | .nil => 1
  | .ptr d => uptoBulk d + 1
  | .slice elems spare => uptoBulkAll elems + uptoBulkAll spare + 1
  | .agg parts => uptoBulkAll parts + 1
  | .iface _ d => uptoBulk d + 1
  | .map entries => uptoBulkEntries entries + 1
  | .held _ => 1
def uptoBulkAll {H : Type} : List (DataW H) → Nat
  | [] => 0
  | d :: r => uptoBulk d + uptoBulkAll r
def uptoBulkEntries {H : Type} : List (Lit × DataW H) → Nat
  | [] => 0
  | x :: r => uptoBulkEntry x + uptoBulkEntries r
def uptoBulkEntry {H : Type} : Lit × DataW H → Nat
  | (.string bytes, d) => bytes.length + uptoBulk d + 1
  | (_, d) => uptoBulk d + 1
 end
def uptoSmall : (H : Type) → List (DataW H) → Bool := fun _ ds => decide (uptoBulkAll ds ≤ 1048576)
def OpenSpec.upto (s : _root_.Go.ChangeSpec) : _root_.Go.OpenSpec := { _root_.Go.OpenSpec.ofChange s with cond := some uptoSmall }

/-- 'limnerlaw01.CodesNext', WHERE WHAT IT READS IS OF BULK AT MOST 1048576: true; the input reads as it did. -/
def codesNextUptoRow : OpenClaim := { program := "ytfnpngffdjjpbaa", sum := "1672b6a24bef7f90e9a971939fd375e3c1b8ae7bf9207544e16c7dd490f9c3d6", func := "limner/limnerlaw01.CodesNext", spec := "codesNext", apart := false, narrowed := true }
def CodesNextUptoSaid : Prop := codesNextUptoRow.holds Try.pinned (OpenSpec.upto codesNextSpec)

/-- 'limnerlaw01.CodesList', WHERE WHAT IT READS IS OF BULK AT MOST 1048576: true; the input reads as it did. -/
def codesListUptoRow : OpenClaim := { program := "ytfnpngffdjjpbaa", sum := "1672b6a24bef7f90e9a971939fd375e3c1b8ae7bf9207544e16c7dd490f9c3d6", func := "limner/limnerlaw01.CodesList", spec := "codesList", apart := false, narrowed := true }
def CodesListUptoSaid : Prop := codesListUptoRow.holds Try.pinned (OpenSpec.upto codesListSpec)

/-- 'limnerlaw01.CodesPut', WHERE WHAT IT READS IS OF BULK AT MOST 1048576: true; the input reads as it did. -/
def codesPutUptoRow : OpenClaim := { program := "ytfnpngffdjjpbaa", sum := "1672b6a24bef7f90e9a971939fd375e3c1b8ae7bf9207544e16c7dd490f9c3d6", func := "limner/limnerlaw01.CodesPut", spec := "codesPut", apart := false, narrowed := true }
def CodesPutUptoSaid : Prop := codesPutUptoRow.holds Try.pinned (OpenSpec.upto codesPutSpec)

/-- 'limnerlaw01.CodesBack', WHERE WHAT IT READS IS OF BULK AT MOST 1048576: true; the input reads as it did. -/
def codesBackUptoRow : OpenClaim := { program := "ytfnpngffdjjpbaa", sum := "1672b6a24bef7f90e9a971939fd375e3c1b8ae7bf9207544e16c7dd490f9c3d6", func := "limner/limnerlaw01.CodesBack", spec := "codesBack", apart := false, narrowed := true }
def CodesBackUptoSaid : Prop := codesBackUptoRow.holds Try.pinned (OpenSpec.upto codesBackSpec)

/-- 'limnerlaw01.CodesParts', WHERE WHAT IT READS IS OF BULK AT MOST 1048576: true; the input reads as it did. -/
def codesPartsUptoRow : OpenClaim := { program := "ytfnpngffdjjpbaa", sum := "1672b6a24bef7f90e9a971939fd375e3c1b8ae7bf9207544e16c7dd490f9c3d6", func := "limner/limnerlaw01.CodesParts", spec := "codesParts", apart := false, narrowed := true }
def CodesPartsUptoSaid : Prop := codesPartsUptoRow.holds Try.pinned (OpenSpec.upto codesPartsSpec)

/-- 'limnerlaw01.CodesJoin', WHERE WHAT IT READS IS OF BULK AT MOST 1048576: true; the input reads as it did. -/
def codesJoinUptoRow : OpenClaim := { program := "ytfnpngffdjjpbaa", sum := "1672b6a24bef7f90e9a971939fd375e3c1b8ae7bf9207544e16c7dd490f9c3d6", func := "limner/limnerlaw01.CodesJoin", spec := "codesJoin", apart := false, narrowed := true }
def CodesJoinUptoSaid : Prop := codesJoinUptoRow.holds Try.pinned (OpenSpec.upto codesJoinSpec)

end Rows
end Go.Proofs.Ytfnpngffdjjpbaa
