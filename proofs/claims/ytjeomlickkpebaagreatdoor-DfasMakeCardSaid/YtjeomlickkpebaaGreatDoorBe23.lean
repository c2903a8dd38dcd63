/-
  limnerref10.rows: what it returns, where atom returns what it should from the place on.
-/
import Derived.Deep.CutBlock
import Derived.Deep.CutRange
import Derived.Test.YtjeomlickkpebaaGreatDoorBe21
import Derived.Test.YtjeomlickkpebaaGreatDoorBe12
namespace Go.Proofs.YtjeomlickkpebaaGreatDoor
open Go.RowKit

/-- While the signs of a piece are read: its node's box beside the rows. -/
structure SgnW (w0 w : World) (A C : Nat) (v6 v7 : Value) (all row : List Nd) (n : Nd) (u : Value) : Prop where
  rws : RwsW w0 w A v6 v7 all row
  a : OutP 77 (A + 1) (fun k => (A + 1 ≤ k ∧ v7.ownBlock ≠ some k) ∧ k ≠ C) w v6 all
  r : OutP 77 (A + 1) (fun k => (A + 1 ≤ k ∧ v6.ownBlock ≠ some k) ∧ k ≠ C) w v7 row
  box : boxN 77 w C n.kind n.set u
  kids : KidsW (fun k => A + 1 ≤ k ∧ v6.ownBlock ≠ some k ∧ v7.ownBlock ≠ some k ∧ k ≠ C) w n.kids u
  ok : OkR n.set
  lo : A + 1 ≤ C ∧ v6.ownBlock ≠ some C ∧ v7.ownBlock ≠ some C
theorem SgnW.under {w0 w w' : World} {A C : Nat} {v6 v7 u : Value} {all row : List Nd} {n : Nd} (h : SgnW w0 w A C v6 v7 all row n u) (hb : Below w.heap.size w w') : SgnW w0 w' A C v6 v7 all row n u :=
  ⟨h.rws.under hb, h.a.under hb, h.r.under hb, h.box.below hb, h.kids.under hb, h.ok, h.lo⟩
end Go.Proofs.YtjeomlickkpebaaGreatDoor
