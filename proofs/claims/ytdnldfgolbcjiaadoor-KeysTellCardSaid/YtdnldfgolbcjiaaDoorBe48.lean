/-
  Both decoders, the program's and the document's, side by side in memory.
-/
import Derived.Test.YtdnldfgolbcjiaaDoorBe34
import Derived.Test.YtdnldfgolbcjiaaDoorBe47
namespace Go.Proofs.YtdnldfgolbcjiaaDoor
open Go.RowKit

/-- Both decoders, side by side. -/
structure TelW (N D R : Nat) (w0 w : World) (v u : Value) (p q : Ky) : Prop where
  dec : DecW N w D v p
  ref : RefK N w R u q
  tab : TabK N w
  bel : Below N w0 w
  n : N ≤ w.heap.size
  ne : D ≠ R
  nv : v.ownBlock ≠ some R
  nu : u.ownBlock ≠ some D
  nn : ∀ k, v.ownBlock = some k → u.ownBlock ≠ some k
theorem RefK.keep {N R : Nat} {ok : Nat → Prop} {w w' : World} {u : Value} {p : Ky} (h : RefK N w R u p) (hk : KeepW ok w w') (hR : ok R) (ho : ∀ k, u.ownBlock = some k → ok k) : RefK N w' R u p :=
  ⟨h.box.keep hk hR, OwnB.keep h.row hk ho, h.ne, h.ge⟩
theorem RefK.below {N R : Nat} {w w' : World} {u : Value} {p : Ky} (h : RefK N w R u p) (hb : Below w.heap.size w w') : RefK N w' R u p := h.keep (keep_below AnyK hb) trivial fun _ _ => trivial
section
variable {N D R : Nat} {w0 w w1 : World} {v u v1 u1 : Value} {p q p1 q1 : Ky}
theorem TelW.below (h : TelW N D R w0 w v u p q) (hb : Below w.heap.size w w1) : TelW N D R w0 w1 v u p q :=
  ⟨h.dec.below hb, h.ref.below hb, h.tab.below hb, h.bel.trans (hb.mono h.n), Nat.le_trans h.n hb.size, h.ne, h.nv, h.nu, h.nn⟩
theorem TelW.dturn (h : TelW N D R w0 w v u p q) (hd : DecW N w1 D v1 p1) (hk : KeepW (okK D v) w w1) (hv : ∀ k, v1.ownBlock = some k → k < w.heap.size → ¬ okK D v k) : TelW N D R w0 w1 v1 u p1 q := by
  have hlu := OwnB.lt h.ref.row
  have hlow := ok_low h.dec.ge fun k e => (OwnB.lt h.dec.row k e).1
  refine ⟨hd, h.ref.keep hk ⟨fun e => h.ne e.symm, h.nv⟩ (fun k e => ⟨fun hkD => h.nu (by rw [e, hkD]), fun e2 => h.nn k e2 e⟩), h.tab.keep hk hlow, KeepW.below h.bel hk h.n hlow, Nat.le_trans h.n hk.size, h.ne, ?_, h.nu, ?_⟩
  · intro e
    exact hv R e h.ref.box.lt ⟨fun e => h.ne e.symm, h.nv⟩
  · intro k e e2
    exact hv k e (hlu k e2).2 ⟨fun hkD => h.nu (by rw [e2, hkD]), fun e3 => h.nn k e3 e2⟩
theorem TelW.rturn (h : TelW N D R w0 w v u p q) (hd : RefK N w1 R u1 q1) (hk : KeepW (fun k => k ≠ R) w w1) (hu : ∀ k, u1.ownBlock = some k → k < w.heap.size → u.ownBlock = some k) : TelW N D R w0 w1 v u1 p q1 := by
  have hlv := OwnB.lt h.dec.row
  have hge := h.ref.ge
  refine ⟨h.dec.keep hk h.ne (fun k e hkR => h.nv (by rw [e, hkR])), hd, h.tab.keep hk (fun k hk hkR => by omega), KeepW.below h.bel hk h.n (fun k hk hkR => by omega), Nat.le_trans h.n hk.size, h.ne, h.nv, ?_, ?_⟩
  · intro e
    exact h.nu (hu D e h.dec.box.lt)
  · intro k e e2
    exact h.nn k e (hu k e2 (hlv k e).2)
end
/-- What waits, as the law asks it of the document's decoder. -/
theorem waits_ref (p : Ky) : (isP p || !((heldS p).toList == [])) = waitsK p := by
  cases p with
  | paste s => rfl
  | held s =>
    show (false || !(s.toList == [])) = decide (0 < s.size)
    rw [ba_lit, Bool.false_or]
    by_cases h : s.size = 0
    · have e : s = noB := by
        apply ByteArray.ext
        exact Array.eq_empty_of_size_eq_zero h
      rw [decide_eq_true (show s = ⟨[].toArray⟩ from e), decide_eq_false (by omega)]; rfl
    · rw [decide_eq_false (fun e => h (by rw [e]; rfl)), decide_eq_true (by omega)]; rfl
end Go.Proofs.YtdnldfgolbcjiaaDoor
