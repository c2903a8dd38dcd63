/-
  A decoder of the program's that tells into a row, beside the document's decoder at its beginning.
-/
import Derived.Test.YtdnldfgolbcjiaaDoorBe48
namespace Go.Proofs.YtdnldfgolbcjiaaDoor
open Go.RowKit

structure PasW (N D R : Nat) (w0 w : World) (v o : Value) (p : Ky) (l : List Ke) : Prop where
  tol : TolW N D w0 w v o p l
  ref : RefK N w R (.slice none 0 0) (.held noB)
  ne : D ≠ R
  nv : v.ownBlock ≠ some R
  no : o.ownBlock ≠ some R
theorem PasW.below {N D R : Nat} {w0 w w' : World} {v o : Value} {p : Ky} {l : List Ke} (h : PasW N D R w0 w v o p l) (hb : Below w.heap.size w w') : PasW N D R w0 w' v o p l :=
  ⟨h.tol.below hb, h.ref.below hb, h.ne, h.nv, h.no⟩
/-- Behind the row: both decoders. -/
theorem PasW.tel {N D R : Nat} {w0 w : World} {v o : Value} {p : Ky} {l : List Ke} (h : PasW N D R w0 w v o p l) : TelW N D R w0 w v (.slice none 0 0) p (.held noB) :=
  ⟨h.tol.dec, h.ref, h.tol.tab, h.tol.bel, h.tol.n, h.ne, h.nv, (fun e => by cases e), fun k _ e => by cases e⟩
theorem PasW.step {N D R : Nat} {w0 w w1 : World} {v o u v' : Value} {p : Ky} {l : List Ke} {r : Ky × List Ke} (h : PasW N D R w0 w v o p l) (hu : KeysW (FromK w.heap.size) w1 u r.2) (hd : DecW N w1 D v' r.1) (hk : KeepW (okK D v) w w1) (hv : ∀ k, v'.ownBlock = some k → k < w.heap.size → ¬ okK D v k) (hs : l.length + r.2.length ≤ 1000000) :
    ∃ o' w2, (Builtin.append_ #[34, 34] 34 #[o, u]).run Tryd.prog w1 = .ok o' w2 ∧ PasW N D R w0 w2 v' o' r.1 (l ++ r.2) := by
  have hR := h.ref.box.lt
  have hO : OutK N w1 o l := h.tol.out.keep hk fun k e => ⟨fun hkD => h.tol.ne1 (by rw [e, hkD]), h.tol.ne2 k e⟩
  have hN1 : N ≤ w1.heap.size := Nat.le_trans h.tol.n hk.size
  obtain ⟨o', w2, hr, hT⟩ := h.tol.step hu hd hk hv hs
  obtain ⟨o2, w3, hr2, _, hk2, hn2⟩ := run_outK 34 34 Tryd.underlying34 hO hu hN1 hs
  rw [hr] at hr2
  cases hr2
  have hz := hk.size
  have hRk : okK D v R := ⟨fun e => h.ne e.symm, h.nv⟩
  refine ⟨o', w2, hr, hT, (h.ref.keep hk hRk fun k e => by cases e).keep hk2 h.no (fun k e => by cases e), h.ne, fun e => hv R e hR hRk, fun e => ?_⟩
  rcases hn2 R e with h5 | h5
  · exact h.no h5
  · omega
end Go.Proofs.YtdnldfgolbcjiaaDoor
