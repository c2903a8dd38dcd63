/-
  (Part).bytes: what the call returns, of every part: the bytes, and what they ask for.
-/
import Derived.Test.YtbpnnnjbddjboaaDoorPsBytes2
namespace Go.Proofs.YtbpnnnjbddjboaaDoor
open Go.RowKit

/-- A part's numbers, as they lie in memory; its other fields in their bounds. -/
structure PrtW (w : World) (pv : Value) (x : Prt) : Prop where
  row : RowV AnyP w pv x.2.2.2.length (intsZ x.2.2.2)
  kind : 0 ≤ x.1 ∧ x.1 ≤ 255
  num : 0 ≤ x.2.2.1 ∧ x.2.2.1 ≤ 255
  ints : ∀ z ∈ x.2.2.2, -9223372036854775808 ≤ z ∧ z ≤ 9223372036854775807
theorem PrtW.below {w w' : World} {pv : Value} {x : Prt} (h : PrtW w pv x) (hb : Below w.heap.size w w') : PrtW w' pv x := ⟨h.row.below hb, h.kind, h.num, h.ints⟩

theorem part_any (x : Prt) (pv : Value) (w : World) (h : PrtW w pv x) :
    Calls Tryd.prog 12 #[.agg #[.int .u8 x.1, .int .i32 x.2.1, .int .u8 x.2.2.1, pv]] w fun e w' => ∃ v, e = .returned (.tuple #[.string (prtB x), .agg #[.int .i64 ((prtA x).1 : Int), .int .i32 ((prtA x).2.1 : Int), v, .int .u8 ((prtA x).2.2.2 : Int)]]) ∧ NumsW (FromP w.heap.size) w' v (prtA x).2.2.1 ∧ Below w.heap.size w w' := by
  obtain ⟨k, r, n, ps⟩ := x
  obtain ⟨hrow, ⟨k0, k1⟩, ⟨n0, n1⟩, hz⟩ := h
  dsimp only at hrow k0 k1 n0 n1 hz ⊢
  have hK : kindP (k, r, n, ps) = (k % 4).toNat := rfl
  by_cases h2 : k % 4 = 2
  · have e : kindP (k, r, n, ps) = 2 := by rw [hK]; omega
    have hB : prtB (k, r, n, ps) = seqB (k, r, n, ps) := by unfold prtB; rw [if_neg (by omega), if_pos e]
    have hA : prtA (k, r, n, ps) = (3, 0, numsP (k, r, n, ps), finP (k, r, n, ps)) := by unfold prtA; rw [if_neg (by omega), if_pos e]
    rw [hB, hA]
    exact bytes_seq k r n pv ps w k0 n0 h2 hrow hz
  · obtain ⟨pa, pc, rfl, _⟩ := hrow
    by_cases h1 : k % 4 = 1
    · have e : kindP (k, r, n, ps) = 1 := by rw [hK]; omega
      have hB : prtB (k, r, n, ps) = oneB (ctlP (k, r, n, ps)) := by unfold prtB; rw [if_pos e]
      have hA : prtA (k, r, n, ps) = (2, ctlP (k, r, n, ps), [], 0) := by unfold prtA; rw [if_pos e]
      rw [hB, hA]
      exact (bytes_ctl k r n pa _ pc w k0 n0 h1 _ rfl).mono fun e' w' ⟨h5, h4⟩ => ⟨.slice none 0 0, h5, NumsW.nil _ _, h4⟩
    · by_cases h3 : k % 4 = 3
      · have e : kindP (k, r, n, ps) = 3 := by rw [hK]; omega
        have hB : prtB (k, r, n, ps) = ⟨#[27, UInt8.ofNat (escP (k, r, n, ps))]⟩ := by unfold prtB; rw [if_neg (by omega), if_neg (by omega), if_pos e]
        have hA : prtA (k, r, n, ps) = (4, 0, [], escP (k, r, n, ps)) := by unfold prtA; rw [if_neg (by omega), if_neg (by omega), if_pos e]
        rw [hB, hA]
        exact (bytes_esc k r n pa _ pc w k0 n0 h3 _ rfl).mono fun e' w' ⟨h5, h4⟩ => ⟨.slice none 0 0, h5, NumsW.nil _ _, h4⟩
      · have h0 : k % 4 = 0 := by omega
        have e : kindP (k, r, n, ps) = 0 := by rw [hK]; omega
        have hB : prtB (k, r, n, ps) = putB (runeP (k, r, n, ps) : Nat) := by
          unfold prtB
          rw [if_neg (by omega), if_neg (by omega), if_neg (by omega)]
        have hA : prtA (k, r, n, ps) = (1, runeP (k, r, n, ps), [], 0) := by
          unfold prtA
          rw [if_neg (by omega), if_neg (by omega), if_neg (by omega)]
        rw [hB, hA]
        by_cases hv : Lib.validRune r = true ∧ 32 ≤ r ∧ r ≠ 127
        · have hr : ((runeP (k, r, n, ps) : Nat) : Int) = r := by
            unfold runeP
            rw [if_pos hv]
            dsimp only
            omega
          rw [hr]
          refine (bytes_rune_yes k r n pa _ pc w k0 n0 h0 hv.1 hv.2.1 hv.2.2).mono fun e' w' ⟨h5, h4⟩ => ⟨.slice none 0 0, ?_, NumsW.nil _ _, h4⟩
          rw [h5]
          rfl
        · have hr : runeP (k, r, n, ps) = 26085 := by
            unfold runeP
            rw [if_neg hv]
          rw [hr]
          refine (bytes_rune_no k r n pa _ pc w k0 n0 h0 hv).mono fun e' w' ⟨h5, h4⟩ => ⟨.slice none 0 0, ?_, NumsW.nil _ _, h4⟩
          rw [h5]
          rfl
end Go.Proofs.YtbpnnnjbddjboaaDoor
