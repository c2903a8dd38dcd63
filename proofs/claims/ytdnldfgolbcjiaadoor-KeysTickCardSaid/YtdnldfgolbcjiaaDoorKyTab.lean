/-
  The four tables of the packages, as they are laid, below some place; that they stay. No call is walked here.
-/
import Derived.Test.YtdnldfgolbcjiaaDoorKyFull
import Derived.Test.YtdnldfgolbcjiaaDoorSide
namespace Go.Proofs.YtdnldfgolbcjiaaDoor
open Go.RowKit

structure TabK (N : Nat) (w : World) : Prop where
  u : TabU w
  t : TabW w
  l1 : 2 < N
  l2 : 3 < N
  l3 : 0 < N
  l4 : 1 < N
theorem TabK.below {N : Nat} {w w' : World} (h : TabK N w) (hb : Below w.heap.size w w') : TabK N w' := ⟨h.u.below hb, h.t.below hb, h.l1, h.l2, h.l3, h.l4⟩
theorem TabK.keep {N : Nat} {ok : Nat → Prop} {w w' : World} (h : TabK N w) (hk : KeepW ok w w') (ho : ∀ k, k < N → ok k) : TabK N w' :=
  ⟨⟨⟨Nat.lt_of_lt_of_le h.u.lt.1 hk.size, Nat.lt_of_lt_of_le h.u.lt.2 hk.size⟩, fun k hx => hk.cell (h.u.fst k hx) (ho _ h.l1), fun i hi => ⟨hk.cell (h.u.acc i hi).1 (ho _ h.l2), hk.cell (h.u.acc i hi).2 (ho _ h.l2)⟩⟩,
    ⟨⟨Nat.lt_of_lt_of_le h.t.1.1 hk.size, Nat.lt_of_lt_of_le h.t.1.2 hk.size⟩, fun k hx => hk.cell (h.t.2.1 k hx) (ho _ h.l3), fun k hx => hk.cell (h.t.2.2 k hx) (ho _ h.l4)⟩, h.l1, h.l2, h.l3, h.l4⟩
end Go.Proofs.YtdnldfgolbcjiaaDoor
