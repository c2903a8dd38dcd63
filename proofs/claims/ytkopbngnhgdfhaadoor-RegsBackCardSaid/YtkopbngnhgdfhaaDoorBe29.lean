/-
  limnerref10.bracket: what it returns.
-/
import Derived.Deep.CutBlock
import Derived.Deep.CutRange
import Derived.Test.YtkopbngnhgdfhaaDoorBe9
namespace Go.Proofs.YtkopbngnhgdfhaaDoor
open Go.RowKit

/-- What bracket returns. -/
def BrkP (s : ByteArray) (i : Nat) (e : Ending) : Prop :=
  match bracketR (restR s i) with
  | some (n, r) => e = .returned (.tuple #[nodeV n (.slice none 0 0), .int .i64 ((s.size - r.length : Nat) : Int)])
  | none => ∃ S : St4, OkR S ∧ e = .returned (.tuple #[nodeV (.mk 1 S []) (.slice none 0 0), .int .i64 (-1)])
/-- What lies in memory while it works: both boxes. -/
structure BrkW (w0 w : World) (A C : Nat) (S : St4) : Prop where
  res : boxN 90 w A 0 noR (.slice none 0 0)
  box : boxN 90 w C 1 S (.slice none 0 0)
  ne : A ≠ C
  lo : w0.heap.size ≤ A ∧ w0.heap.size ≤ C
  bel : Below w0.heap.size w0 w
  ok : OkR S
theorem BrkW.below {w0 w w' : World} {A C : Nat} {S : St4} (h : BrkW w0 w A C S) (hb : Below w.heap.size w w') : BrkW w0 w' A C S :=
  ⟨h.res.below hb, h.box.below hb, h.ne, h.lo, h.bel.trans (hb.mono (by have := h.lo; have := h.res.lt; omega)), h.ok⟩
theorem BrkW.drewN {w0 w : World} {A C : Nat} {S : St4} (h : BrkW w0 w A C S) (m : Nat) : BrkW w0 (w.drewN m) A C S := h.below (below_drewN (Below.refl _ _) m)
theorem BrkW.set {w0 w : World} {A C : Nat} {S : St4} (h : BrkW w0 w A C S) (t : St4) (ht : OkR t) : BrkW w0 (set4N w C t) A C t :=
  ⟨h.res.keep (keep_set4N w C t) h.ne, h.box.set4 t, h.ne, h.lo, KeepW.below h.bel (keep_set4N w C t) (by have := h.lo; have := h.box.lt; omega) (fun k hk => by have := h.lo; omega), ht⟩
/-- The result stored. -/
theorem BrkW.done {w0 w : World} {A C : Nat} {S : St4} (h : BrkW w0 w A C S) : boxN 90 (set6N w A 1 S (.slice none 0 0)) A 1 S (.slice none 0 0) ∧ Below w0.heap.size w0 (set6N w A 1 S (.slice none 0 0)) :=
  ⟨h.res.set6 1 S _, KeepW.below h.bel (keep_set6N w A 1 S _) (by have := h.lo; have := h.box.lt; omega) (fun k hk => by have := h.lo; omega)⟩

section
variable {f : Nat} {first : Bool} {S : St4} {l r u : List Nat} {a b : Nat}
theorem spans_fin (h : l.head? = some 93) : spansR (f + 1) false S l = some (S, l.tail) := by simp only [spansR]; rw [if_pos ⟨trivial, h⟩]
theorem spans_no (hx : ¬ (first = false ∧ l.head? = some 93)) (h : letR true l = none) : spansR (f + 1) first S l = none := by simp only [spansR]; rw [if_neg hx, h]
theorem spans_one (hx : ¬ (first = false ∧ l.head? = some 93)) (h : letR true l = some (a, r)) (h45 : r.head? ≠ some 45) : spansR (f + 1) first S l = spansR f false (withR S a (a + 1 - a)) r := by
  simp only [spansR]; rw [if_neg hx, h]; simp only; rw [if_neg h45, show a + 1 - a = 1 by omega]
theorem spans_rngNo (hx : ¬ (first = false ∧ l.head? = some 93)) (h : letR true l = some (a, r)) (h45 : r.head? = some 45) (h2 : letR true r.tail = none) : spansR (f + 1) first S l = none := by
  simp only [spansR]; rw [if_neg hx, h]; simp only; rw [if_pos h45, h2]
theorem spans_rngLess (hx : ¬ (first = false ∧ l.head? = some 93)) (h : letR true l = some (a, r)) (h45 : r.head? = some 45) (h2 : letR true r.tail = some (b, u)) (hlt : b < a) : spansR (f + 1) first S l = none := by
  simp only [spansR]; rw [if_neg hx, h]; simp only; rw [if_pos h45, h2]; simp only; rw [if_pos hlt]
theorem spans_rng (hx : ¬ (first = false ∧ l.head? = some 93)) (h : letR true l = some (a, r)) (h45 : r.head? = some 45) (h2 : letR true r.tail = some (b, u)) (hlt : ¬ b < a) : spansR (f + 1) first S l = spansR f false (withR S a (b + 1 - a)) u := by
  simp only [spansR]; rw [if_neg hx, h]; simp only; rw [if_pos h45, h2]; simp only; rw [if_neg hlt]
end

set_option maxRecDepth 4000 in
set_option maxHeartbeats 16000000 in
theorem rbracket_any (s : ByteArray) (i0 : Nat) (w : World) (hi : i0 ≤ s.size) (hs : s.size ≤ 1000) :
    Calls Tryd.prog 78 #[.string s, .int .i64 (i0 : Int)] w fun e w' => BrkP s i0 e ∧ Below w.heap.size w w' := by
  have HAT := Lib.hid (fun i W (h : i ≤ 100000) => rat_any s i W h)
  have HLT := Lib.hid (fun i br W (h : i ≤ 90000) => rletter_any s i br W h)
  obtain ⟨PP, hPP⟩ : ∃ PP : Ending → Prop, BrkP s i0 = PP := ⟨_, rfl⟩
  have H0 : Hid (BrkW w (((w.alloc (.cells #[.int .i64 0, .int .u64 0, .int .u64 0, .int .u64 0, .int .u64 0, .slice none 0 0] 90)).alloc (.cells #[.int .i64 1, .int .u64 0, .int .u64 0, .int .u64 0, .int .u64 0, .slice none 0 0] 90))) w.heap.size (w.heap.size + 1) noR) := by
    have b1 := alloc_under w (.cells #[.int .i64 0, .int .u64 0, .int .u64 0, .int .u64 0, .int .u64 0, .slice none 0 0] 90)
    have b2 := alloc_under (w.alloc (.cells #[.int .i64 0, .int .u64 0, .int .u64 0, .int .u64 0, .int .u64 0, .slice none 0 0] 90)) (.cells #[.int .i64 1, .int .u64 0, .int .u64 0, .int .u64 0, .int .u64 0, .slice none 0 0] 90)
    have n1 := (boxN.new 90 w 0 noR (.slice none 0 0)).below b2
    have n2 := boxN.new 90 (w.alloc (.cells #[.int .i64 0, .int .u64 0, .int .u64 0, .int .u64 0, .int .u64 0, .slice none 0 0] 90)) 1 noR (.slice none 0 0)
    rw [alloc_size] at n2
    exact ⟨n1, n2, by omega, ⟨Nat.le_refl _, by omega⟩, b1.trans (b2.mono (by rw [alloc_size]; omega)), ok_no⟩
  obtain ⟨W0, hW0⟩ : ∃ W0, (((w.alloc (.cells #[.int .i64 0, .int .u64 0, .int .u64 0, .int .u64 0, .int .u64 0, .slice none 0 0] 90)).alloc (.cells #[.int .i64 1, .int .u64 0, .int .u64 0, .int .u64 0, .int .u64 0, .slice none 0 0] 90))) = W0 := ⟨_, rfl⟩
  rw [hW0] at H0
  have HW0 := Lib.hid hW0
  clear hW0
  have hAT0 := HAT.out i0 W0 (by omega)
  have i00 : (0 : Int) ≤ (i0 : Int) := by omega
  have i01 : (i0 : Int) ≤ 1000 := by omega
  by_cases h94 : atI s i0 = 94
  · rw [h94] at hAT0
    have h94r : (restR s i0).head? = some 94 := (rest_head s i0 94).2 h94
    have his : i0 < s.size := Classical.byContradiction fun hn => by have h9 : atI s i0 = -1 := if_neg hn; omega
    obtain ⟨RES, hRES⟩ : ∃ RES, spansR ((restR s i0).length + 1) true noR (restR s (i0 + 1)) = RES := ⟨_, rfl⟩
    have hB : bracketR (restR s i0) = RES.map fun x => (.mk 1 (notR x.1 256) [], x.2) := by unfold bracketR; rw [if_pos h94r, rest_tail, hRES]
    have HNO : Hid (RES = none → ∀ S : St4, OkR S → PP (.returned (.tuple #[nodeV (.mk 1 S []) (.slice none 0 0), .int .i64 (-1)]))) := fun h S hS => by rw [← hPP]; unfold BrkP; rw [hB, h]; exact ⟨S, hS, rfl⟩
    have HYES : Hid (∀ S r, RES = some (S, r) → PP (.returned (.tuple #[nodeV (.mk 1 (notR S 256) []) (.slice none 0 0), .int .i64 ((s.size - r.length : Nat) : Int)]))) := fun S r h => by rw [← hPP]; unfold BrkP; rw [hB, h]; rfl
    have HST : Hid (∃ S, BrkW w W0 w.heap.size (w.heap.size + 1) S ∧ spansR ((restR s i0).length + 1) (decide (0 = 0)) S (restR s (i0 + 1)) = RES ∧ (restR s (i0 + 1)).length < (restR s i0).length + 1) := ⟨noR, H0.out, hRES, by rw [rest_len, rest_len]; omega⟩
    rw [hPP]
    clear hPP hB hRES H0 h94 h94r
    have HAT0 := Lib.hid hAT0
    clear hAT0
    go_enter Tryd.func78, Tryd.ntmps78
    go_wp2_with fail
    (try rw [HW0.out])
    go_fit HAT0.out
    rintro e w1 ⟨rfl, rfl⟩
    obtain ⟨A, hA⟩ : ∃ A, w.heap.size = A := ⟨_, rfl⟩
    obtain ⟨C, hC⟩ : ∃ C, w.heap.size + 1 = C := ⟨_, rfl⟩
    rw [hC] at HST
    rw [hA] at HST
    (try rw [hC])
    have HSZ := Lib.hid hA
    rw [hA]
    clear hC hA HW0
    go_wp2
    go_loopw [1, 8] (fun s1 s8 wr => ∃ j m f : Nat, s1 = .int .i64 (j : Int) ∧ s8 = .int .i64 (m : Int) ∧ j ≤ s.size ∧ m ≤ j ∧ Hid (∃ S, BrkW w wr A C S ∧ spansR f (decide (m = 0)) S (restR s j) = RES ∧ (restR s j).length < f)) (fun s1 _ _ => s.size + 1 - (intOf s1).toNat)
    case atStart => exact ⟨i0 + 1, 0, _, by go_num, rfl, by omega, Nat.zero_le _, HST.out⟩
    case round =>
      obtain ⟨j, m, f, rfl, rfl, hj, hmj, HI⟩ := hrel
      clear HST
      obtain ⟨S, hW, hF, hlen0⟩ := HI.out
      obtain ⟨f, rfl⟩ : ∃ q, f = q + 1 := ⟨f - 1, by omega⟩
      have HW := Lib.hid hW
      have HF := Lib.hid hF
      have HLN := Lib.hid hlen0
      clear HI hW hF hlen0
      have j0 : (0 : Int) ≤ (j : Int) := by omega
      have m0 : (0 : Int) ≤ (m : Int) := by omega
      by_cases hm : m = 0
      · have hb0 : ((m : Int) == 0) = true := beq_iff_eq.2 (by omega)
        have HX : Hid (¬ (decide (m = 0) = false ∧ (restR s j).head? = some 93)) := fun h => by rw [decide_eq_true hm] at h; cases h.1
        clear hm
        rcases hL : letR true (restR s j) with _ | ⟨a, r⟩
        · have HL : Hid (∀ W, Calls Tryd.prog 80 #[.string s, .int .i64 (j : Int), .bool true] W fun e w' => e = .returned (.tuple #[.int .u8 0, .int .i64 (-1)]) ∧ ∃ m, w' = W.drewN m) := fun W => by have h9 := HLT.out j true W (by omega); rw [let_not hL] at h9; exact h9
          have HNN := Lib.hid (HNO.out (HF.out.symm.trans (spans_no HX.out hL)))
          clear hL HF HX
          go_wp2_with fail
          go_fit (HL.out _)
          rintro e w2 ⟨rfl, m2, hw2⟩
          have HW2 : Hid (BrkW w w2 A C S) := by rw [hw2]; exact HW.out.drewN m2
          clear hw2
          obtain ⟨hD1, hD2⟩ := HW2.out.done
          obtain ⟨⟨y0, y1, y2, y3, y4, y5⟩, _⟩ := hD1.cells
          unfold set6N set4N at y0 y1 y2 y3 y4 y5 hD2
          have Y0 := Lib.hid y0
          have Y1 := Lib.hid y1
          have Y2 := Lib.hid y2
          have Y3 := Lib.hid y3
          have Y4 := Lib.hid y4
          have Y5 := Lib.hid y5
          have HDB := Lib.hid hD2
          clear hD1 hD2 y0 y1 y2 y3 y4 y5
          obtain ⟨⟨c0, c1, c2, c3, c4, c5⟩, fc0, fc1, fc2, fc3, fc4, fc5⟩ := HW2.out.box.cells
          obtain ⟨⟨a0, a1, a2, a3, a4, a5⟩, fa0, fa1, fa2, fa3, fa4, fa5⟩ := HW2.out.res.cells
          have hAlt := HW2.out.res.lt
          have hClt := HW2.out.box.lt
          have hne := HW2.out.ne
          go_wp2_with fail
          have y0 := Y0.out
          have y1 := Y1.out
          have y2 := Y2.out
          have y3 := Y3.out
          have y4 := Y4.out
          have y5 := Y5.out
          exact bodyPost_ret (v := .tuple #[.agg #[.int .i64 1, .int .u64 ((S).1 : Int), .int .u64 ((S).2.1 : Int), .int .u64 ((S).2.2.1 : Int), .int .u64 ((S).2.2.2 : Int), .slice none 0 0], .int .i64 (-1)]) (by simp [results, Tryd.results78, go_sem, y0, y1, y2, y3, y4, y5]) rfl ⟨HNN.out S HW2.out.ok, HDB.out⟩
        · obtain ⟨k, hjk, hks, hr, hv, ha⟩ := let_at hL
          have HL : Hid (∀ W, Calls Tryd.prog 80 #[.string s, .int .i64 (j : Int), .bool true] W fun e w' => e = .returned (.tuple #[.int .u8 (a : Int), .int .i64 (k : Int)]) ∧ ∃ m, w' = W.drewN m) := fun W => by have h9 := HLT.out j true W (by omega); rw [hv] at h9; exact h9
          have k0 : (0 : Int) ≤ (k : Int) := by omega
          have a0 : (0 : Int) ≤ (a : Int) := by omega
          have a255 : (a : Int) ≤ 255 := by omega
          subst hr
          clear hv
          have HA2 := Lib.hid (fun W => HAT.out k W (by omega))
          by_cases h45 : atI s k = 45
          · have h45r : (restR s k).head? = some 45 := (rest_head s k 45).2 h45
            rw [h45] at HA2
            rcases hM : letR true (restR s (k + 1)) with _ | ⟨b, u⟩
            · have HM : Hid (∀ W, Calls Tryd.prog 80 #[.string s, .int .i64 ((k : Int) + 1), .bool true] W fun e w' => e = .returned (.tuple #[.int .u8 0, .int .i64 (-1)]) ∧ ∃ m, w' = W.drewN m) := fun W => by have h9 := HLT.out (k + 1) true W (by omega); rw [let_not hM] at h9; exact h9
              have HNN := Lib.hid (HNO.out (HF.out.symm.trans (spans_rngNo HX.out hL h45r (by rw [rest_tail]; exact hM))))
              clear hL HF HX h45 h45r hM
              go_wp2_with fail
              go_fit (HL.out _)
              rintro e w2 ⟨rfl, m2, hw2⟩
              have HW2 : Hid (BrkW w w2 A C S) := by rw [hw2]; exact HW.out.drewN m2
              clear hw2
              go_wp2_with fail
              go_fit (HA2.out _)
              rintro e w3 ⟨rfl, rfl⟩
              go_wp2_with fail
              go_fit (HM.out _)
              rintro e w4 ⟨rfl, m4, hw4⟩
              have HW3 : Hid (BrkW w w4 A C S) := by rw [hw4]; exact HW2.out.drewN m4
              clear hw4 HW2
              have HW2 := HW3
              clear HW3
              obtain ⟨hD1, hD2⟩ := HW2.out.done
              obtain ⟨⟨y0, y1, y2, y3, y4, y5⟩, _⟩ := hD1.cells
              unfold set6N set4N at y0 y1 y2 y3 y4 y5 hD2
              have Y0 := Lib.hid y0
              have Y1 := Lib.hid y1
              have Y2 := Lib.hid y2
              have Y3 := Lib.hid y3
              have Y4 := Lib.hid y4
              have Y5 := Lib.hid y5
              have HDB := Lib.hid hD2
              clear hD1 hD2 y0 y1 y2 y3 y4 y5
              obtain ⟨⟨c0, c1, c2, c3, c4, c5⟩, fc0, fc1, fc2, fc3, fc4, fc5⟩ := HW2.out.box.cells
              obtain ⟨⟨a0, a1, a2, a3, a4, a5⟩, fa0, fa1, fa2, fa3, fa4, fa5⟩ := HW2.out.res.cells
              have hAlt := HW2.out.res.lt
              have hClt := HW2.out.box.lt
              have hne := HW2.out.ne
              go_wp2_with fail
              have y0 := Y0.out
              have y1 := Y1.out
              have y2 := Y2.out
              have y3 := Y3.out
              have y4 := Y4.out
              have y5 := Y5.out
              exact bodyPost_ret (v := .tuple #[.agg #[.int .i64 1, .int .u64 ((S).1 : Int), .int .u64 ((S).2.1 : Int), .int .u64 ((S).2.2.1 : Int), .int .u64 ((S).2.2.2 : Int), .slice none 0 0], .int .i64 (-1)]) (by simp [results, Tryd.results78, go_sem, y0, y1, y2, y3, y4, y5]) rfl ⟨HNN.out S HW2.out.ok, HDB.out⟩
            · obtain ⟨k2, hkk, hk2, hu, hv, hb⟩ := let_at hM
              have HM : Hid (∀ W, Calls Tryd.prog 80 #[.string s, .int .i64 ((k : Int) + 1), .bool true] W fun e w' => e = .returned (.tuple #[.int .u8 (b : Int), .int .i64 (k2 : Int)]) ∧ ∃ m, w' = W.drewN m) := fun W => by have h9 := HLT.out (k + 1) true W (by omega); rw [hv] at h9; exact h9
              have k20 : (0 : Int) ≤ (k2 : Int) := by omega
              have b0 : (0 : Int) ≤ (b : Int) := by omega
              have b255 : (b : Int) ≤ 255 := by omega
              subst hu
              clear hv
              by_cases hlt : b < a
              · have hlti : (b : Int) < (a : Int) := by omega
                have HNN := Lib.hid (HNO.out (HF.out.symm.trans (spans_rngLess HX.out hL h45r (by rw [rest_tail]; exact hM) hlt)))
                clear hL HF HX h45 h45r hM hlt
                go_wp2_with fail
                go_fit (HL.out _)
                rintro e w2 ⟨rfl, m2, hw2⟩
                have HW2 : Hid (BrkW w w2 A C S) := by rw [hw2]; exact HW.out.drewN m2
                clear hw2
                go_wp2_with fail
                go_fit (HA2.out _)
                rintro e w3 ⟨rfl, rfl⟩
                go_wp2_with fail
                go_fit (HM.out _)
                rintro e w4 ⟨rfl, m4, hw4⟩
                have HW3 : Hid (BrkW w w4 A C S) := by rw [hw4]; exact HW2.out.drewN m4
                clear hw4 HW2
                have HW2 := HW3
                clear HW3
                obtain ⟨hD1, hD2⟩ := HW2.out.done
                obtain ⟨⟨y0, y1, y2, y3, y4, y5⟩, _⟩ := hD1.cells
                unfold set6N set4N at y0 y1 y2 y3 y4 y5 hD2
                have Y0 := Lib.hid y0
                have Y1 := Lib.hid y1
                have Y2 := Lib.hid y2
                have Y3 := Lib.hid y3
                have Y4 := Lib.hid y4
                have Y5 := Lib.hid y5
                have HDB := Lib.hid hD2
                clear hD1 hD2 y0 y1 y2 y3 y4 y5
                obtain ⟨⟨c0, c1, c2, c3, c4, c5⟩, fc0, fc1, fc2, fc3, fc4, fc5⟩ := HW2.out.box.cells
                obtain ⟨⟨a0, a1, a2, a3, a4, a5⟩, fa0, fa1, fa2, fa3, fa4, fa5⟩ := HW2.out.res.cells
                have hAlt := HW2.out.res.lt
                have hClt := HW2.out.box.lt
                have hne := HW2.out.ne
                go_wp2_with fail
                have y0 := Y0.out
                have y1 := Y1.out
                have y2 := Y2.out
                have y3 := Y3.out
                have y4 := Y4.out
                have y5 := Y5.out
                exact bodyPost_ret (v := .tuple #[.agg #[.int .i64 1, .int .u64 ((S).1 : Int), .int .u64 ((S).2.1 : Int), .int .u64 ((S).2.2.1 : Int), .int .u64 ((S).2.2.2 : Int), .slice none 0 0], .int .i64 (-1)]) (by simp [results, Tryd.results78, go_sem, y0, y1, y2, y3, y4, y5]) rfl ⟨HNN.out S HW2.out.ok, HDB.out⟩
              · have hlti : (a : Int) ≤ (b : Int) := by omega
                have HSR := Lib.hid (spans_rng (f := f) (S := S) HX.out hL h45r (by rw [rest_tail]; exact hM) hlt)
                have hlen : (restR s k2).length < f := by have := HLN.out; rw [rest_len] at this ⊢; omega
                clear hL HX h45 h45r hM hlt
                go_wp2_with fail
                go_fit (HL.out _)
                rintro e w2 ⟨rfl, m2, hw2⟩
                have HW2 : Hid (BrkW w w2 A C S) := by rw [hw2]; exact HW.out.drewN m2
                clear hw2
                go_wp2_with fail
                go_fit (HA2.out _)
                rintro e w3 ⟨rfl, rfl⟩
                go_wp2_with fail
                go_fit (HM.out _)
                rintro e w4 ⟨rfl, m4, hw4⟩
                have HW3 : Hid (BrkW w w4 A C S) := by rw [hw4]; exact HW2.out.drewN m4
                clear hw4 HW2
                have HW2 := HW3
                clear HW3
                obtain ⟨⟨c0, c1, c2, c3, c4, c5⟩, fc0, fc1, fc2, fc3, fc4, fc5⟩ := HW2.out.box.cells
                obtain ⟨⟨a0, a1, a2, a3, a4, a5⟩, fa0, fa1, fa2, fa3, fa4, fa5⟩ := HW2.out.res.cells
                have hAlt := HW2.out.res.lt
                have hClt := HW2.out.box.lt
                have hne := HW2.out.ne
                have hwi := fun W => rwith_any S a b W HW2.out.ok (by omega)
                have hok2 := ok_with S a (b + 1 - a) (by omega) HW2.out.ok
                obtain ⟨S2, hS2⟩ : ∃ S2, withR S a (b + 1 - a) = S2 := ⟨_, rfl⟩
                rw [hS2] at HSR hok2
                simp only [hS2] at hwi
                have HWI := Lib.hid hwi
                clear hwi hS2
                unfold setV at HWI
                go_wp2_with fail
                go_fit (HWI.out _)
                rintro e w5 ⟨rfl, hb5⟩
                have HW5 := Lib.hid (HW2.out.below hb5)
                have hT := HW5.out.set S2 hok2
                have HT := Lib.hid hT
                unfold set4N at HT
                clear hT hb5
                clear c0 c1 c2 c3 c4 c5 fc0 fc1 fc2 fc3 fc4 fc5 a0 a1 a2 a3 a4 a5 fa0 fa1 fa2 fa3 fa4 fa5 hAlt hClt hne
                obtain ⟨⟨c0, c1, c2, c3, c4, c5⟩, fc0, fc1, fc2, fc3, fc4, fc5⟩ := HW5.out.box.cells
                obtain ⟨⟨a0, a1, a2, a3, a4, a5⟩, fa0, fa1, fa2, fa3, fa4, fa5⟩ := HW5.out.res.cells
                have hAlt := HW5.out.res.lt
                have hClt := HW5.out.box.lt
                have hne := HW5.out.ne
                have HSP := Lib.hid (And.intro HSR.out hlen)
                clear HW5 HWI HW2
                go_wp2_with fail
                go_roundw
                case rel => exact ⟨k2, m + 1, f, rfl, by go_num, by omega, by omega, ⟨_, HT.out, by rw [decide_eq_false (by omega), ← HSP.out.1]; exact HF.out, HSP.out.2⟩⟩
                case measure => (simp [intOf]; omega)
          · have h45r : (restR s k).head? ≠ some 45 := fun h9 => h45 ((rest_head s k 45).1 h9)
            have HSR := Lib.hid (spans_one (f := f) (S := S) HX.out hL h45r)
            have hlen : (restR s k).length < f := by have := HLN.out; rw [rest_len] at this ⊢; omega
            obtain ⟨cc, hcc⟩ : ∃ cc, atI s k = cc := ⟨_, rfl⟩
            rw [hcc] at HA2 h45
            clear hL HX h45r hcc
            go_wp2_with fail
            go_fit (HL.out _)
            rintro e w2 ⟨rfl, m2, hw2⟩
            have HW2 : Hid (BrkW w w2 A C S) := by rw [hw2]; exact HW.out.drewN m2
            clear hw2
            go_wp2_with fail
            go_fit (HA2.out _)
            rintro e w3 ⟨rfl, rfl⟩
            obtain ⟨⟨c0, c1, c2, c3, c4, c5⟩, fc0, fc1, fc2, fc3, fc4, fc5⟩ := HW2.out.box.cells
            obtain ⟨⟨a0, a1, a2, a3, a4, a5⟩, fa0, fa1, fa2, fa3, fa4, fa5⟩ := HW2.out.res.cells
            have hAlt := HW2.out.res.lt
            have hClt := HW2.out.box.lt
            have hne := HW2.out.ne
            have hwi := fun W => rwith_any S a a W HW2.out.ok (by omega)
            have hok2 := ok_with S a (a + 1 - a) (by omega) HW2.out.ok
            obtain ⟨S2, hS2⟩ : ∃ S2, withR S a (a + 1 - a) = S2 := ⟨_, rfl⟩
            rw [hS2] at HSR hok2
            simp only [hS2] at hwi
            have HWI := Lib.hid hwi
            clear hwi hS2
            unfold setV at HWI
            go_wp2_with fail
            go_fit (HWI.out _)
            rintro e w5 ⟨rfl, hb5⟩
            have HW5 := Lib.hid (HW2.out.below hb5)
            have hT := HW5.out.set S2 hok2
            have HT := Lib.hid hT
            unfold set4N at HT
            clear hT hb5
            clear c0 c1 c2 c3 c4 c5 fc0 fc1 fc2 fc3 fc4 fc5 a0 a1 a2 a3 a4 a5 fa0 fa1 fa2 fa3 fa4 fa5 hAlt hClt hne
            obtain ⟨⟨c0, c1, c2, c3, c4, c5⟩, fc0, fc1, fc2, fc3, fc4, fc5⟩ := HW5.out.box.cells
            obtain ⟨⟨a0, a1, a2, a3, a4, a5⟩, fa0, fa1, fa2, fa3, fa4, fa5⟩ := HW5.out.res.cells
            have hAlt := HW5.out.res.lt
            have hClt := HW5.out.box.lt
            have hne := HW5.out.ne
            have HSP := Lib.hid (And.intro HSR.out hlen)
            clear HW5 HWI HW2
            go_wp2_with fail
            go_roundw
            case rel => exact ⟨k, m + 1, f, rfl, by go_num, by omega, by omega, ⟨_, HT.out, by rw [decide_eq_false (by omega), ← HSP.out.1]; exact HF.out, HSP.out.2⟩⟩
            case measure => (simp [intOf]; omega)
      · have hmi : ((m : Int) == 0) = false := beq_eq_false_iff_ne.2 (by omega)
        have HA1 := Lib.hid (fun W => HAT.out j W (by omega))
        by_cases h93 : atI s j = 93
        · have h93r : (restR s j).head? = some 93 := (rest_head s j 93).2 h93
          rw [h93] at HA1
          have hjs : j < s.size := Classical.byContradiction fun hn => by have h9 : atI s j = -1 := if_neg hn; omega
          have HRS : Hid (RES = some (S, restR s (j + 1))) := by have h9 := HF.out; rw [decide_eq_false hm, spans_fin h93r, rest_tail] at h9; exact h9.symm
          clear h93 h93r hm HF
          have HNN := Lib.hid (HYES.out _ _ HRS.out)
          rw [rest_len, show ((s.size - (s.size - (j + 1)) : Nat) : Int) = (j : Int) + 1 by omega] at HNN
          go_wp2_with fail
          go_fit (HA1.out _)
          rintro e w2 ⟨rfl, rfl⟩
          have hokS := HW.out.ok
          obtain ⟨WA, hWA⟩ : ∃ WA, w2.alloc (.cells #[.int .u64 0, .int .u64 0, .int .u64 0, .int .u64 0] 23) = WA := ⟨_, rfl⟩
          obtain ⟨O, hO⟩ : ∃ O, w2.heap.size = O := ⟨_, rfl⟩
          have hb9 := alloc_under w2 (.cells #[.int .u64 0, .int .u64 0, .int .u64 0, .int .u64 0] 23)
          have hsb := boxS.new w2 noR
          have hOA : O ≠ A := by have := HW.out.res.lt; omega
          have hOC : O ≠ C := by have := HW.out.box.lt; omega
          have hOw : w.heap.size ≤ O := by have := HW.out.bel.size; omega
          have HS2 : Hid (BrkW w WA A C S ∧ boxS WA O (notR S 0)) := by rw [← hWA]; refine ⟨HW.out.below hb9, ?_⟩; rw [← hO]; exact hsb
          have HWA := Lib.hid hWA
          have HO := Lib.hid hO
          clear hWA hO hb9 hsb
          clear HLN HW
          go_wp2
          (try rw [HWA.out])
          (try rw [HO.out])
          clear HWA HO
          go_loopw [13] (fun s13 wr => ∃ q : Nat, s13 = .int .i64 (q : Int) ∧ q ≤ 256 ∧ Hid (BrkW w wr A C S ∧ boxS wr O (notR S q))) (fun s13 _ => 256 - (intOf s13).toNat)
          case atStart => exact ⟨0, rfl, Nat.zero_le _, HS2⟩
          case round =>
            obtain ⟨q, rfl, hq, HI⟩ := hrel
            clear HS2
            have HW2 := Lib.hid HI.out.1
            have HOB := Lib.hid HI.out.2
            clear HI
            have q0 : (0 : Int) ≤ (q : Int) := by omega
            by_cases hlt : q < 256
            · have hlti : (q : Int) < 256 := by omega
              have HHS := Lib.hid (fun W => rhas_any S q W hokS hlt)
              unfold setV at HHS
              obtain ⟨⟨c0, c1, c2, c3, c4, c5⟩, fc0, fc1, fc2, fc3, fc4, fc5⟩ := HW2.out.box.cells
              obtain ⟨⟨a0, a1, a2, a3, a4, a5⟩, fa0, fa1, fa2, fa3, fa4, fa5⟩ := HW2.out.res.cells
              have hAlt := HW2.out.res.lt
              have hClt := HW2.out.box.lt
              have hne := HW2.out.ne
              cases hhs : hasR S q with
              | true =>
                have HNX : Hid (notR S (q + 1) = notR S q) := by show notR S (q + 1) = _; rw [notR, if_pos hhs]
                rw [hhs] at HHS
                clear hhs
                go_wp2_with fail
                go_fit (HHS.out _)
                rintro e w5 ⟨rfl, hb5⟩
                have HR : Hid (BrkW w w5 A C S ∧ boxS w5 O (notR S (q + 1))) := by rw [HNX.out]; exact ⟨HW2.out.below hb5, HOB.out.below hb5⟩
                clear hb5 HW2 HOB
                clear c0 c1 c2 c3 c4 c5 fc0 fc1 fc2 fc3 fc4 fc5 a0 a1 a2 a3 a4 a5 fa0 fa1 fa2 fa3 fa4 fa5 hAlt hClt hne
                go_wp2_with fail
                go_roundw
                case rel => exact ⟨q + 1, by go_num, hlt, HR⟩
                case measure => (simp [intOf]; omega)
              | false =>
                have hnx : notR S (q + 1) = withR (notR S q) q (q + 1 - q) := by rw [notR, if_neg (by rw [hhs]; decide), show q + 1 - q = 1 by omega]; rfl
                rw [hhs] at HHS
                have hwi := fun W => rwith_any (notR S q) q q W (ok_not S q (by omega)) hlt
                have hokn := ok_not S (q + 1) (by omega)
                simp only [← hnx] at hwi
                obtain ⟨N0, hN0⟩ : ∃ N0, notR S q = N0 := ⟨_, rfl⟩
                obtain ⟨N1, hN1⟩ : ∃ N1, notR S (q + 1) = N1 := ⟨_, rfl⟩
                rw [hN0] at HOB
                simp only [hN0, hN1] at hwi
                have HWI := Lib.hid hwi
                have HN1 := Lib.hid hN1
                clear hwi hnx hN0 hN1 hhs hokn
                unfold setV at HWI
                go_wp2_with fail
                go_fit (HHS.out _)
                rintro e w5 ⟨rfl, hb5⟩
                have HW5 := Lib.hid (HW2.out.below hb5)
                have HOB5 := Lib.hid (HOB.out.below hb5)
                clear hb5 HW2 HOB
                clear c0 c1 c2 c3 c4 c5 fc0 fc1 fc2 fc3 fc4 fc5 a0 a1 a2 a3 a4 a5 fa0 fa1 fa2 fa3 fa4 fa5 hAlt hClt hne
                obtain ⟨⟨x0, x1, x2, x3⟩, z0, z1, z2, z3⟩ := HOB5.out.cells
                have hOlt := HOB5.out.lt
                go_wp2_with fail
                go_fit (HWI.out _)
                rintro e w6 ⟨rfl, hb6⟩
                have HW6 := Lib.hid (HW5.out.below hb6)
                have HOB6 := Lib.hid (HOB5.out.below hb6)
                clear hb6 HW5 HOB5 x0 x1 x2 x3 z0 z1 z2 z3 hOlt
                obtain ⟨⟨x0, x1, x2, x3⟩, z0, z1, z2, z3⟩ := HOB6.out.cells
                have hOlt := HOB6.out.lt
                have hR : BrkW w (set4 w6 O N1) A C S ∧ boxS (set4 w6 O N1) O (notR S (q + 1)) := by rw [HN1.out]; exact ⟨⟨HW6.out.res.keep (keep_set4 w6 O N1) (Ne.symm hOA), HW6.out.box.keep (keep_set4 w6 O N1) (Ne.symm hOC), HW6.out.ne, HW6.out.lo, KeepW.below HW6.out.bel (keep_set4 w6 O N1) (by omega) (fun k hk => by omega), HW6.out.ok⟩, HOB6.out.all N1⟩
                have HR := Lib.hid hR
                unfold set4 at HR
                clear hR HW6 HOB6
                go_wp2_with fail
                go_roundw
                case rel => exact ⟨q + 1, by go_num, hlt, HR⟩
                case measure => (simp [intOf]; omega)
            · have hq256 : q = 256 := by omega
              have hlti : (256 : Int) ≤ (q : Int) := by omega
              rw [hq256] at HOB
              have hok2 := ok_not S 256 (Nat.le_refl _)
              obtain ⟨S2, hS2⟩ : ∃ S2, notR S 256 = S2 := ⟨_, rfl⟩
              rw [hS2] at HOB hok2
              have HNN2 := HNN
              rw [hS2] at HNN
              clear hS2 hq256
              obtain ⟨⟨x0, x1, x2, x3⟩, z0, z1, z2, z3⟩ := HOB.out.cells
              have hOlt := HOB.out.lt
              obtain ⟨⟨c0, c1, c2, c3, c4, c5⟩, fc0, fc1, fc2, fc3, fc4, fc5⟩ := HW2.out.box.cells
              obtain ⟨⟨a0, a1, a2, a3, a4, a5⟩, fa0, fa1, fa2, fa3, fa4, fa5⟩ := HW2.out.res.cells
              have hAlt := HW2.out.res.lt
              have hClt := HW2.out.box.lt
              have hne := HW2.out.ne
              have h5 := HW2.out.set S2 hok2
              obtain ⟨W5, hW5⟩ : ∃ W5, set4N wr C S2 = W5 := ⟨_, rfl⟩
              rw [hW5] at h5
              have HW5 := Lib.hid h5
              unfold set4N at hW5
              have HE5 := Lib.hid hW5
              clear h5 hW5
              go_upto_region 26 with (fail)
              rw [HE5.out]
              clear HE5 HOB HW2 x0 x1 x2 x3 z0 z1 z2 z3 hOlt
              clear c0 c1 c2 c3 c4 c5 fc0 fc1 fc2 fc3 fc4 fc5 a0 a1 a2 a3 a4 a5 fa0 fa1 fa2 fa3 fa4 fa5 hAlt hClt hne
              obtain ⟨hD1, hD2⟩ := HW5.out.done
              obtain ⟨⟨y0, y1, y2, y3, y4, y5⟩, _⟩ := hD1.cells
              unfold set6N set4N at y0 y1 y2 y3 y4 y5 hD2
              have Y0 := Lib.hid y0
              have Y1 := Lib.hid y1
              have Y2 := Lib.hid y2
              have Y3 := Lib.hid y3
              have Y4 := Lib.hid y4
              have Y5 := Lib.hid y5
              have HDB := Lib.hid hD2
              clear hD1 hD2 y0 y1 y2 y3 y4 y5
              obtain ⟨⟨c0, c1, c2, c3, c4, c5⟩, fc0, fc1, fc2, fc3, fc4, fc5⟩ := HW5.out.box.cells
              obtain ⟨⟨a0, a1, a2, a3, a4, a5⟩, fa0, fa1, fa2, fa3, fa4, fa5⟩ := HW5.out.res.cells
              have hAlt := HW5.out.res.lt
              have hClt := HW5.out.box.lt
              have hne := HW5.out.ne
              go_wp2_with fail
              have y0 := Y0.out
              have y1 := Y1.out
              have y2 := Y2.out
              have y3 := Y3.out
              have y4 := Y4.out
              have y5 := Y5.out
              exact bodyPost_ret (v := .tuple #[.agg #[.int .i64 1, .int .u64 ((S2).1 : Int), .int .u64 ((S2).2.1 : Int), .int .u64 ((S2).2.2.1 : Int), .int .u64 ((S2).2.2.2 : Int), .slice none 0 0], .int .i64 ((j : Int) + 1)]) (by simp [results, Tryd.results78, go_sem, y0, y1, y2, y3, y4, y5]) rfl ⟨HNN.out, HDB.out⟩
        · have HX : Hid (¬ (decide (m = 0) = false ∧ (restR s j).head? = some 93)) := fun h => h93 ((rest_head s j 93).1 h.2)
          obtain ⟨cj, hcj⟩ : ∃ cj, atI s j = cj := ⟨_, rfl⟩
          rw [hcj] at HA1 h93
          clear hcj
          rcases hL : letR true (restR s j) with _ | ⟨a, r⟩
          · have HL : Hid (∀ W, Calls Tryd.prog 80 #[.string s, .int .i64 (j : Int), .bool true] W fun e w' => e = .returned (.tuple #[.int .u8 0, .int .i64 (-1)]) ∧ ∃ m, w' = W.drewN m) := fun W => by have h9 := HLT.out j true W (by omega); rw [let_not hL] at h9; exact h9
            have HNN := Lib.hid (HNO.out (HF.out.symm.trans (spans_no HX.out hL)))
            clear hL HF HX
            go_wp2_with fail
            go_fit (HA1.out _)
            rintro e w9 ⟨rfl, rfl⟩
            go_wp2_with fail
            go_fit (HL.out _)
            rintro e w2 ⟨rfl, m2, hw2⟩
            have HW2 : Hid (BrkW w w2 A C S) := by rw [hw2]; exact HW.out.drewN m2
            clear hw2
            obtain ⟨hD1, hD2⟩ := HW2.out.done
            obtain ⟨⟨y0, y1, y2, y3, y4, y5⟩, _⟩ := hD1.cells
            unfold set6N set4N at y0 y1 y2 y3 y4 y5 hD2
            have Y0 := Lib.hid y0
            have Y1 := Lib.hid y1
            have Y2 := Lib.hid y2
            have Y3 := Lib.hid y3
            have Y4 := Lib.hid y4
            have Y5 := Lib.hid y5
            have HDB := Lib.hid hD2
            clear hD1 hD2 y0 y1 y2 y3 y4 y5
            obtain ⟨⟨c0, c1, c2, c3, c4, c5⟩, fc0, fc1, fc2, fc3, fc4, fc5⟩ := HW2.out.box.cells
            obtain ⟨⟨a0, a1, a2, a3, a4, a5⟩, fa0, fa1, fa2, fa3, fa4, fa5⟩ := HW2.out.res.cells
            have hAlt := HW2.out.res.lt
            have hClt := HW2.out.box.lt
            have hne := HW2.out.ne
            go_wp2_with fail
            have y0 := Y0.out
            have y1 := Y1.out
            have y2 := Y2.out
            have y3 := Y3.out
            have y4 := Y4.out
            have y5 := Y5.out
            exact bodyPost_ret (v := .tuple #[.agg #[.int .i64 1, .int .u64 ((S).1 : Int), .int .u64 ((S).2.1 : Int), .int .u64 ((S).2.2.1 : Int), .int .u64 ((S).2.2.2 : Int), .slice none 0 0], .int .i64 (-1)]) (by simp [results, Tryd.results78, go_sem, y0, y1, y2, y3, y4, y5]) rfl ⟨HNN.out S HW2.out.ok, HDB.out⟩
          · obtain ⟨k, hjk, hks, hr, hv, ha⟩ := let_at hL
            have HL : Hid (∀ W, Calls Tryd.prog 80 #[.string s, .int .i64 (j : Int), .bool true] W fun e w' => e = .returned (.tuple #[.int .u8 (a : Int), .int .i64 (k : Int)]) ∧ ∃ m, w' = W.drewN m) := fun W => by have h9 := HLT.out j true W (by omega); rw [hv] at h9; exact h9
            have k0 : (0 : Int) ≤ (k : Int) := by omega
            have a0 : (0 : Int) ≤ (a : Int) := by omega
            have a255 : (a : Int) ≤ 255 := by omega
            subst hr
            clear hv
            have HA2 := Lib.hid (fun W => HAT.out k W (by omega))
            by_cases h45 : atI s k = 45
            · have h45r : (restR s k).head? = some 45 := (rest_head s k 45).2 h45
              rw [h45] at HA2
              rcases hM : letR true (restR s (k + 1)) with _ | ⟨b, u⟩
              · have HM : Hid (∀ W, Calls Tryd.prog 80 #[.string s, .int .i64 ((k : Int) + 1), .bool true] W fun e w' => e = .returned (.tuple #[.int .u8 0, .int .i64 (-1)]) ∧ ∃ m, w' = W.drewN m) := fun W => by have h9 := HLT.out (k + 1) true W (by omega); rw [let_not hM] at h9; exact h9
                have HNN := Lib.hid (HNO.out (HF.out.symm.trans (spans_rngNo HX.out hL h45r (by rw [rest_tail]; exact hM))))
                clear hL HF HX h45 h45r hM
                go_wp2_with fail
                go_fit (HA1.out _)
                rintro e w9 ⟨rfl, rfl⟩
                go_wp2_with fail
                go_fit (HL.out _)
                rintro e w2 ⟨rfl, m2, hw2⟩
                have HW2 : Hid (BrkW w w2 A C S) := by rw [hw2]; exact HW.out.drewN m2
                clear hw2
                go_wp2_with fail
                go_fit (HA2.out _)
                rintro e w3 ⟨rfl, rfl⟩
                go_wp2_with fail
                go_fit (HM.out _)
                rintro e w4 ⟨rfl, m4, hw4⟩
                have HW3 : Hid (BrkW w w4 A C S) := by rw [hw4]; exact HW2.out.drewN m4
                clear hw4 HW2
                have HW2 := HW3
                clear HW3
                obtain ⟨hD1, hD2⟩ := HW2.out.done
                obtain ⟨⟨y0, y1, y2, y3, y4, y5⟩, _⟩ := hD1.cells
                unfold set6N set4N at y0 y1 y2 y3 y4 y5 hD2
                have Y0 := Lib.hid y0
                have Y1 := Lib.hid y1
                have Y2 := Lib.hid y2
                have Y3 := Lib.hid y3
                have Y4 := Lib.hid y4
                have Y5 := Lib.hid y5
                have HDB := Lib.hid hD2
                clear hD1 hD2 y0 y1 y2 y3 y4 y5
                obtain ⟨⟨c0, c1, c2, c3, c4, c5⟩, fc0, fc1, fc2, fc3, fc4, fc5⟩ := HW2.out.box.cells
                obtain ⟨⟨a0, a1, a2, a3, a4, a5⟩, fa0, fa1, fa2, fa3, fa4, fa5⟩ := HW2.out.res.cells
                have hAlt := HW2.out.res.lt
                have hClt := HW2.out.box.lt
                have hne := HW2.out.ne
                go_wp2_with fail
                have y0 := Y0.out
                have y1 := Y1.out
                have y2 := Y2.out
                have y3 := Y3.out
                have y4 := Y4.out
                have y5 := Y5.out
                exact bodyPost_ret (v := .tuple #[.agg #[.int .i64 1, .int .u64 ((S).1 : Int), .int .u64 ((S).2.1 : Int), .int .u64 ((S).2.2.1 : Int), .int .u64 ((S).2.2.2 : Int), .slice none 0 0], .int .i64 (-1)]) (by simp [results, Tryd.results78, go_sem, y0, y1, y2, y3, y4, y5]) rfl ⟨HNN.out S HW2.out.ok, HDB.out⟩
              · obtain ⟨k2, hkk, hk2, hu, hv, hb⟩ := let_at hM
                have HM : Hid (∀ W, Calls Tryd.prog 80 #[.string s, .int .i64 ((k : Int) + 1), .bool true] W fun e w' => e = .returned (.tuple #[.int .u8 (b : Int), .int .i64 (k2 : Int)]) ∧ ∃ m, w' = W.drewN m) := fun W => by have h9 := HLT.out (k + 1) true W (by omega); rw [hv] at h9; exact h9
                have k20 : (0 : Int) ≤ (k2 : Int) := by omega
                have b0 : (0 : Int) ≤ (b : Int) := by omega
                have b255 : (b : Int) ≤ 255 := by omega
                subst hu
                clear hv
                by_cases hlt : b < a
                · have hlti : (b : Int) < (a : Int) := by omega
                  have HNN := Lib.hid (HNO.out (HF.out.symm.trans (spans_rngLess HX.out hL h45r (by rw [rest_tail]; exact hM) hlt)))
                  clear hL HF HX h45 h45r hM hlt
                  go_wp2_with fail
                  go_fit (HA1.out _)
                  rintro e w9 ⟨rfl, rfl⟩
                  go_wp2_with fail
                  go_fit (HL.out _)
                  rintro e w2 ⟨rfl, m2, hw2⟩
                  have HW2 : Hid (BrkW w w2 A C S) := by rw [hw2]; exact HW.out.drewN m2
                  clear hw2
                  go_wp2_with fail
                  go_fit (HA2.out _)
                  rintro e w3 ⟨rfl, rfl⟩
                  go_wp2_with fail
                  go_fit (HM.out _)
                  rintro e w4 ⟨rfl, m4, hw4⟩
                  have HW3 : Hid (BrkW w w4 A C S) := by rw [hw4]; exact HW2.out.drewN m4
                  clear hw4 HW2
                  have HW2 := HW3
                  clear HW3
                  obtain ⟨hD1, hD2⟩ := HW2.out.done
                  obtain ⟨⟨y0, y1, y2, y3, y4, y5⟩, _⟩ := hD1.cells
                  unfold set6N set4N at y0 y1 y2 y3 y4 y5 hD2
                  have Y0 := Lib.hid y0
                  have Y1 := Lib.hid y1
                  have Y2 := Lib.hid y2
                  have Y3 := Lib.hid y3
                  have Y4 := Lib.hid y4
                  have Y5 := Lib.hid y5
                  have HDB := Lib.hid hD2
                  clear hD1 hD2 y0 y1 y2 y3 y4 y5
                  obtain ⟨⟨c0, c1, c2, c3, c4, c5⟩, fc0, fc1, fc2, fc3, fc4, fc5⟩ := HW2.out.box.cells
                  obtain ⟨⟨a0, a1, a2, a3, a4, a5⟩, fa0, fa1, fa2, fa3, fa4, fa5⟩ := HW2.out.res.cells
                  have hAlt := HW2.out.res.lt
                  have hClt := HW2.out.box.lt
                  have hne := HW2.out.ne
                  go_wp2_with fail
                  have y0 := Y0.out
                  have y1 := Y1.out
                  have y2 := Y2.out
                  have y3 := Y3.out
                  have y4 := Y4.out
                  have y5 := Y5.out
                  exact bodyPost_ret (v := .tuple #[.agg #[.int .i64 1, .int .u64 ((S).1 : Int), .int .u64 ((S).2.1 : Int), .int .u64 ((S).2.2.1 : Int), .int .u64 ((S).2.2.2 : Int), .slice none 0 0], .int .i64 (-1)]) (by simp [results, Tryd.results78, go_sem, y0, y1, y2, y3, y4, y5]) rfl ⟨HNN.out S HW2.out.ok, HDB.out⟩
                · have hlti : (a : Int) ≤ (b : Int) := by omega
                  have HSR := Lib.hid (spans_rng (f := f) (S := S) HX.out hL h45r (by rw [rest_tail]; exact hM) hlt)
                  have hlen : (restR s k2).length < f := by have := HLN.out; rw [rest_len] at this ⊢; omega
                  clear hL HX h45 h45r hM hlt
                  go_wp2_with fail
                  go_fit (HA1.out _)
                  rintro e w9 ⟨rfl, rfl⟩
                  go_wp2_with fail
                  go_fit (HL.out _)
                  rintro e w2 ⟨rfl, m2, hw2⟩
                  have HW2 : Hid (BrkW w w2 A C S) := by rw [hw2]; exact HW.out.drewN m2
                  clear hw2
                  go_wp2_with fail
                  go_fit (HA2.out _)
                  rintro e w3 ⟨rfl, rfl⟩
                  go_wp2_with fail
                  go_fit (HM.out _)
                  rintro e w4 ⟨rfl, m4, hw4⟩
                  have HW3 : Hid (BrkW w w4 A C S) := by rw [hw4]; exact HW2.out.drewN m4
                  clear hw4 HW2
                  have HW2 := HW3
                  clear HW3
                  obtain ⟨⟨c0, c1, c2, c3, c4, c5⟩, fc0, fc1, fc2, fc3, fc4, fc5⟩ := HW2.out.box.cells
                  obtain ⟨⟨a0, a1, a2, a3, a4, a5⟩, fa0, fa1, fa2, fa3, fa4, fa5⟩ := HW2.out.res.cells
                  have hAlt := HW2.out.res.lt
                  have hClt := HW2.out.box.lt
                  have hne := HW2.out.ne
                  have hwi := fun W => rwith_any S a b W HW2.out.ok (by omega)
                  have hok2 := ok_with S a (b + 1 - a) (by omega) HW2.out.ok
                  obtain ⟨S2, hS2⟩ : ∃ S2, withR S a (b + 1 - a) = S2 := ⟨_, rfl⟩
                  rw [hS2] at HSR hok2
                  simp only [hS2] at hwi
                  have HWI := Lib.hid hwi
                  clear hwi hS2
                  unfold setV at HWI
                  go_wp2_with fail
                  go_fit (HWI.out _)
                  rintro e w5 ⟨rfl, hb5⟩
                  have HW5 := Lib.hid (HW2.out.below hb5)
                  have hT := HW5.out.set S2 hok2
                  have HT := Lib.hid hT
                  unfold set4N at HT
                  clear hT hb5
                  clear c0 c1 c2 c3 c4 c5 fc0 fc1 fc2 fc3 fc4 fc5 a0 a1 a2 a3 a4 a5 fa0 fa1 fa2 fa3 fa4 fa5 hAlt hClt hne
                  obtain ⟨⟨c0, c1, c2, c3, c4, c5⟩, fc0, fc1, fc2, fc3, fc4, fc5⟩ := HW5.out.box.cells
                  obtain ⟨⟨a0, a1, a2, a3, a4, a5⟩, fa0, fa1, fa2, fa3, fa4, fa5⟩ := HW5.out.res.cells
                  have hAlt := HW5.out.res.lt
                  have hClt := HW5.out.box.lt
                  have hne := HW5.out.ne
                  have HSP := Lib.hid (And.intro HSR.out hlen)
                  clear HW5 HWI HW2
                  go_wp2_with fail
                  go_roundw
                  case rel => exact ⟨k2, m + 1, f, rfl, by go_num, by omega, by omega, ⟨_, HT.out, by rw [decide_eq_false (by omega), ← HSP.out.1]; exact HF.out, HSP.out.2⟩⟩
                  case measure => (simp [intOf]; omega)
            · have h45r : (restR s k).head? ≠ some 45 := fun h9 => h45 ((rest_head s k 45).1 h9)
              have HSR := Lib.hid (spans_one (f := f) (S := S) HX.out hL h45r)
              have hlen : (restR s k).length < f := by have := HLN.out; rw [rest_len] at this ⊢; omega
              obtain ⟨cc, hcc⟩ : ∃ cc, atI s k = cc := ⟨_, rfl⟩
              rw [hcc] at HA2 h45
              clear hL HX h45r hcc
              go_wp2_with fail
              go_fit (HA1.out _)
              rintro e w9 ⟨rfl, rfl⟩
              go_wp2_with fail
              go_fit (HL.out _)
              rintro e w2 ⟨rfl, m2, hw2⟩
              have HW2 : Hid (BrkW w w2 A C S) := by rw [hw2]; exact HW.out.drewN m2
              clear hw2
              go_wp2_with fail
              go_fit (HA2.out _)
              rintro e w3 ⟨rfl, rfl⟩
              obtain ⟨⟨c0, c1, c2, c3, c4, c5⟩, fc0, fc1, fc2, fc3, fc4, fc5⟩ := HW2.out.box.cells
              obtain ⟨⟨a0, a1, a2, a3, a4, a5⟩, fa0, fa1, fa2, fa3, fa4, fa5⟩ := HW2.out.res.cells
              have hAlt := HW2.out.res.lt
              have hClt := HW2.out.box.lt
              have hne := HW2.out.ne
              have hwi := fun W => rwith_any S a a W HW2.out.ok (by omega)
              have hok2 := ok_with S a (a + 1 - a) (by omega) HW2.out.ok
              obtain ⟨S2, hS2⟩ : ∃ S2, withR S a (a + 1 - a) = S2 := ⟨_, rfl⟩
              rw [hS2] at HSR hok2
              simp only [hS2] at hwi
              have HWI := Lib.hid hwi
              clear hwi hS2
              unfold setV at HWI
              go_wp2_with fail
              go_fit (HWI.out _)
              rintro e w5 ⟨rfl, hb5⟩
              have HW5 := Lib.hid (HW2.out.below hb5)
              have hT := HW5.out.set S2 hok2
              have HT := Lib.hid hT
              unfold set4N at HT
              clear hT hb5
              clear c0 c1 c2 c3 c4 c5 fc0 fc1 fc2 fc3 fc4 fc5 a0 a1 a2 a3 a4 a5 fa0 fa1 fa2 fa3 fa4 fa5 hAlt hClt hne
              obtain ⟨⟨c0, c1, c2, c3, c4, c5⟩, fc0, fc1, fc2, fc3, fc4, fc5⟩ := HW5.out.box.cells
              obtain ⟨⟨a0, a1, a2, a3, a4, a5⟩, fa0, fa1, fa2, fa3, fa4, fa5⟩ := HW5.out.res.cells
              have hAlt := HW5.out.res.lt
              have hClt := HW5.out.box.lt
              have hne := HW5.out.ne
              have HSP := Lib.hid (And.intro HSR.out hlen)
              clear HW5 HWI HW2
              go_wp2_with fail
              go_roundw
              case rel => exact ⟨k, m + 1, f, rfl, by go_num, by omega, by omega, ⟨_, HT.out, by rw [decide_eq_false (by omega), ← HSP.out.1]; exact HF.out, HSP.out.2⟩⟩
              case measure => (simp [intOf]; omega)
  · rw [show atI s i0 = atI s i0 from rfl] at hAT0
    have h94r : ¬ (restR s i0).head? = some 94 := fun h => h94 ((rest_head s i0 94).1 h)
    obtain ⟨RES, hRES⟩ : ∃ RES, spansR ((restR s i0).length + 1) true noR (restR s i0) = RES := ⟨_, rfl⟩
    have hB : bracketR (restR s i0) = RES.map fun x => (.mk 1 x.1 [], x.2) := by unfold bracketR; rw [if_neg h94r, hRES]
    have HNO : Hid (RES = none → ∀ S : St4, OkR S → PP (.returned (.tuple #[nodeV (.mk 1 S []) (.slice none 0 0), .int .i64 (-1)]))) := fun h S hS => by rw [← hPP]; unfold BrkP; rw [hB, h]; exact ⟨S, hS, rfl⟩
    have HYES : Hid (∀ S r, RES = some (S, r) → PP (.returned (.tuple #[nodeV (.mk 1 S []) (.slice none 0 0), .int .i64 ((s.size - r.length : Nat) : Int)]))) := fun S r h => by rw [← hPP]; unfold BrkP; rw [hB, h]; rfl
    have HST : Hid (∃ S, BrkW w W0 w.heap.size (w.heap.size + 1) S ∧ spansR ((restR s i0).length + 1) (decide (0 = 0)) S (restR s i0) = RES ∧ (restR s i0).length < (restR s i0).length + 1) := ⟨noR, H0.out, hRES, Nat.lt_succ_self _⟩
    rw [hPP]
    obtain ⟨c0, hc0⟩ : ∃ c0, atI s i0 = c0 := ⟨_, rfl⟩
    rw [hc0] at hAT0 h94
    have hb94 : (c0 == 94) = false := beq_eq_false_iff_ne.2 h94
    clear hPP hB hRES H0 h94r hc0 h94
    have HAT0 := Lib.hid hAT0
    clear hAT0
    go_enter Tryd.func78, Tryd.ntmps78
    go_wp2_with fail
    (try rw [HW0.out])
    go_fit HAT0.out
    rintro e w1 ⟨rfl, rfl⟩
    obtain ⟨A, hA⟩ : ∃ A, w.heap.size = A := ⟨_, rfl⟩
    obtain ⟨C, hC⟩ : ∃ C, w.heap.size + 1 = C := ⟨_, rfl⟩
    rw [hC] at HST
    rw [hA] at HST
    (try rw [hC])
    have HSZ := Lib.hid hA
    rw [hA]
    clear hC hA HW0
    go_wp2
    go_loopw [1, 8] (fun s1 s8 wr => ∃ j m f : Nat, s1 = .int .i64 (j : Int) ∧ s8 = .int .i64 (m : Int) ∧ j ≤ s.size ∧ m ≤ j ∧ Hid (∃ S, BrkW w wr A C S ∧ spansR f (decide (m = 0)) S (restR s j) = RES ∧ (restR s j).length < f)) (fun s1 _ _ => s.size + 1 - (intOf s1).toNat)
    case atStart => exact ⟨i0, 0, _, rfl, rfl, by omega, Nat.zero_le _, HST.out⟩
    case round =>
      obtain ⟨j, m, f, rfl, rfl, hj, hmj, HI⟩ := hrel
      clear HST
      obtain ⟨S, hW, hF, hlen0⟩ := HI.out
      obtain ⟨f, rfl⟩ : ∃ q, f = q + 1 := ⟨f - 1, by omega⟩
      have HW := Lib.hid hW
      have HF := Lib.hid hF
      have HLN := Lib.hid hlen0
      clear HI hW hF hlen0
      have j0 : (0 : Int) ≤ (j : Int) := by omega
      have m0 : (0 : Int) ≤ (m : Int) := by omega
      by_cases hm : m = 0
      · have hb0 : ((m : Int) == 0) = true := beq_iff_eq.2 (by omega)
        have HX : Hid (¬ (decide (m = 0) = false ∧ (restR s j).head? = some 93)) := fun h => by rw [decide_eq_true hm] at h; cases h.1
        clear hm
        rcases hL : letR true (restR s j) with _ | ⟨a, r⟩
        · have HL : Hid (∀ W, Calls Tryd.prog 80 #[.string s, .int .i64 (j : Int), .bool true] W fun e w' => e = .returned (.tuple #[.int .u8 0, .int .i64 (-1)]) ∧ ∃ m, w' = W.drewN m) := fun W => by have h9 := HLT.out j true W (by omega); rw [let_not hL] at h9; exact h9
          have HNN := Lib.hid (HNO.out (HF.out.symm.trans (spans_no HX.out hL)))
          clear hL HF HX
          go_wp2_with fail
          go_fit (HL.out _)
          rintro e w2 ⟨rfl, m2, hw2⟩
          have HW2 : Hid (BrkW w w2 A C S) := by rw [hw2]; exact HW.out.drewN m2
          clear hw2
          obtain ⟨hD1, hD2⟩ := HW2.out.done
          obtain ⟨⟨y0, y1, y2, y3, y4, y5⟩, _⟩ := hD1.cells
          unfold set6N set4N at y0 y1 y2 y3 y4 y5 hD2
          have Y0 := Lib.hid y0
          have Y1 := Lib.hid y1
          have Y2 := Lib.hid y2
          have Y3 := Lib.hid y3
          have Y4 := Lib.hid y4
          have Y5 := Lib.hid y5
          have HDB := Lib.hid hD2
          clear hD1 hD2 y0 y1 y2 y3 y4 y5
          obtain ⟨⟨c0, c1, c2, c3, c4, c5⟩, fc0, fc1, fc2, fc3, fc4, fc5⟩ := HW2.out.box.cells
          obtain ⟨⟨a0, a1, a2, a3, a4, a5⟩, fa0, fa1, fa2, fa3, fa4, fa5⟩ := HW2.out.res.cells
          have hAlt := HW2.out.res.lt
          have hClt := HW2.out.box.lt
          have hne := HW2.out.ne
          go_wp2_with fail
          have y0 := Y0.out
          have y1 := Y1.out
          have y2 := Y2.out
          have y3 := Y3.out
          have y4 := Y4.out
          have y5 := Y5.out
          exact bodyPost_ret (v := .tuple #[.agg #[.int .i64 1, .int .u64 ((S).1 : Int), .int .u64 ((S).2.1 : Int), .int .u64 ((S).2.2.1 : Int), .int .u64 ((S).2.2.2 : Int), .slice none 0 0], .int .i64 (-1)]) (by simp [results, Tryd.results78, go_sem, y0, y1, y2, y3, y4, y5]) rfl ⟨HNN.out S HW2.out.ok, HDB.out⟩
        · obtain ⟨k, hjk, hks, hr, hv, ha⟩ := let_at hL
          have HL : Hid (∀ W, Calls Tryd.prog 80 #[.string s, .int .i64 (j : Int), .bool true] W fun e w' => e = .returned (.tuple #[.int .u8 (a : Int), .int .i64 (k : Int)]) ∧ ∃ m, w' = W.drewN m) := fun W => by have h9 := HLT.out j true W (by omega); rw [hv] at h9; exact h9
          have k0 : (0 : Int) ≤ (k : Int) := by omega
          have a0 : (0 : Int) ≤ (a : Int) := by omega
          have a255 : (a : Int) ≤ 255 := by omega
          subst hr
          clear hv
          have HA2 := Lib.hid (fun W => HAT.out k W (by omega))
          by_cases h45 : atI s k = 45
          · have h45r : (restR s k).head? = some 45 := (rest_head s k 45).2 h45
            rw [h45] at HA2
            rcases hM : letR true (restR s (k + 1)) with _ | ⟨b, u⟩
            · have HM : Hid (∀ W, Calls Tryd.prog 80 #[.string s, .int .i64 ((k : Int) + 1), .bool true] W fun e w' => e = .returned (.tuple #[.int .u8 0, .int .i64 (-1)]) ∧ ∃ m, w' = W.drewN m) := fun W => by have h9 := HLT.out (k + 1) true W (by omega); rw [let_not hM] at h9; exact h9
              have HNN := Lib.hid (HNO.out (HF.out.symm.trans (spans_rngNo HX.out hL h45r (by rw [rest_tail]; exact hM))))
              clear hL HF HX h45 h45r hM
              go_wp2_with fail
              go_fit (HL.out _)
              rintro e w2 ⟨rfl, m2, hw2⟩
              have HW2 : Hid (BrkW w w2 A C S) := by rw [hw2]; exact HW.out.drewN m2
              clear hw2
              go_wp2_with fail
              go_fit (HA2.out _)
              rintro e w3 ⟨rfl, rfl⟩
              go_wp2_with fail
              go_fit (HM.out _)
              rintro e w4 ⟨rfl, m4, hw4⟩
              have HW3 : Hid (BrkW w w4 A C S) := by rw [hw4]; exact HW2.out.drewN m4
              clear hw4 HW2
              have HW2 := HW3
              clear HW3
              obtain ⟨hD1, hD2⟩ := HW2.out.done
              obtain ⟨⟨y0, y1, y2, y3, y4, y5⟩, _⟩ := hD1.cells
              unfold set6N set4N at y0 y1 y2 y3 y4 y5 hD2
              have Y0 := Lib.hid y0
              have Y1 := Lib.hid y1
              have Y2 := Lib.hid y2
              have Y3 := Lib.hid y3
              have Y4 := Lib.hid y4
              have Y5 := Lib.hid y5
              have HDB := Lib.hid hD2
              clear hD1 hD2 y0 y1 y2 y3 y4 y5
              obtain ⟨⟨c0, c1, c2, c3, c4, c5⟩, fc0, fc1, fc2, fc3, fc4, fc5⟩ := HW2.out.box.cells
              obtain ⟨⟨a0, a1, a2, a3, a4, a5⟩, fa0, fa1, fa2, fa3, fa4, fa5⟩ := HW2.out.res.cells
              have hAlt := HW2.out.res.lt
              have hClt := HW2.out.box.lt
              have hne := HW2.out.ne
              go_wp2_with fail
              have y0 := Y0.out
              have y1 := Y1.out
              have y2 := Y2.out
              have y3 := Y3.out
              have y4 := Y4.out
              have y5 := Y5.out
              exact bodyPost_ret (v := .tuple #[.agg #[.int .i64 1, .int .u64 ((S).1 : Int), .int .u64 ((S).2.1 : Int), .int .u64 ((S).2.2.1 : Int), .int .u64 ((S).2.2.2 : Int), .slice none 0 0], .int .i64 (-1)]) (by simp [results, Tryd.results78, go_sem, y0, y1, y2, y3, y4, y5]) rfl ⟨HNN.out S HW2.out.ok, HDB.out⟩
            · obtain ⟨k2, hkk, hk2, hu, hv, hb⟩ := let_at hM
              have HM : Hid (∀ W, Calls Tryd.prog 80 #[.string s, .int .i64 ((k : Int) + 1), .bool true] W fun e w' => e = .returned (.tuple #[.int .u8 (b : Int), .int .i64 (k2 : Int)]) ∧ ∃ m, w' = W.drewN m) := fun W => by have h9 := HLT.out (k + 1) true W (by omega); rw [hv] at h9; exact h9
              have k20 : (0 : Int) ≤ (k2 : Int) := by omega
              have b0 : (0 : Int) ≤ (b : Int) := by omega
              have b255 : (b : Int) ≤ 255 := by omega
              subst hu
              clear hv
              by_cases hlt : b < a
              · have hlti : (b : Int) < (a : Int) := by omega
                have HNN := Lib.hid (HNO.out (HF.out.symm.trans (spans_rngLess HX.out hL h45r (by rw [rest_tail]; exact hM) hlt)))
                clear hL HF HX h45 h45r hM hlt
                go_wp2_with fail
                go_fit (HL.out _)
                rintro e w2 ⟨rfl, m2, hw2⟩
                have HW2 : Hid (BrkW w w2 A C S) := by rw [hw2]; exact HW.out.drewN m2
                clear hw2
                go_wp2_with fail
                go_fit (HA2.out _)
                rintro e w3 ⟨rfl, rfl⟩
                go_wp2_with fail
                go_fit (HM.out _)
                rintro e w4 ⟨rfl, m4, hw4⟩
                have HW3 : Hid (BrkW w w4 A C S) := by rw [hw4]; exact HW2.out.drewN m4
                clear hw4 HW2
                have HW2 := HW3
                clear HW3
                obtain ⟨hD1, hD2⟩ := HW2.out.done
                obtain ⟨⟨y0, y1, y2, y3, y4, y5⟩, _⟩ := hD1.cells
                unfold set6N set4N at y0 y1 y2 y3 y4 y5 hD2
                have Y0 := Lib.hid y0
                have Y1 := Lib.hid y1
                have Y2 := Lib.hid y2
                have Y3 := Lib.hid y3
                have Y4 := Lib.hid y4
                have Y5 := Lib.hid y5
                have HDB := Lib.hid hD2
                clear hD1 hD2 y0 y1 y2 y3 y4 y5
                obtain ⟨⟨c0, c1, c2, c3, c4, c5⟩, fc0, fc1, fc2, fc3, fc4, fc5⟩ := HW2.out.box.cells
                obtain ⟨⟨a0, a1, a2, a3, a4, a5⟩, fa0, fa1, fa2, fa3, fa4, fa5⟩ := HW2.out.res.cells
                have hAlt := HW2.out.res.lt
                have hClt := HW2.out.box.lt
                have hne := HW2.out.ne
                go_wp2_with fail
                have y0 := Y0.out
                have y1 := Y1.out
                have y2 := Y2.out
                have y3 := Y3.out
                have y4 := Y4.out
                have y5 := Y5.out
                exact bodyPost_ret (v := .tuple #[.agg #[.int .i64 1, .int .u64 ((S).1 : Int), .int .u64 ((S).2.1 : Int), .int .u64 ((S).2.2.1 : Int), .int .u64 ((S).2.2.2 : Int), .slice none 0 0], .int .i64 (-1)]) (by simp [results, Tryd.results78, go_sem, y0, y1, y2, y3, y4, y5]) rfl ⟨HNN.out S HW2.out.ok, HDB.out⟩
              · have hlti : (a : Int) ≤ (b : Int) := by omega
                have HSR := Lib.hid (spans_rng (f := f) (S := S) HX.out hL h45r (by rw [rest_tail]; exact hM) hlt)
                have hlen : (restR s k2).length < f := by have := HLN.out; rw [rest_len] at this ⊢; omega
                clear hL HX h45 h45r hM hlt
                go_wp2_with fail
                go_fit (HL.out _)
                rintro e w2 ⟨rfl, m2, hw2⟩
                have HW2 : Hid (BrkW w w2 A C S) := by rw [hw2]; exact HW.out.drewN m2
                clear hw2
                go_wp2_with fail
                go_fit (HA2.out _)
                rintro e w3 ⟨rfl, rfl⟩
                go_wp2_with fail
                go_fit (HM.out _)
                rintro e w4 ⟨rfl, m4, hw4⟩
                have HW3 : Hid (BrkW w w4 A C S) := by rw [hw4]; exact HW2.out.drewN m4
                clear hw4 HW2
                have HW2 := HW3
                clear HW3
                obtain ⟨⟨c0, c1, c2, c3, c4, c5⟩, fc0, fc1, fc2, fc3, fc4, fc5⟩ := HW2.out.box.cells
                obtain ⟨⟨a0, a1, a2, a3, a4, a5⟩, fa0, fa1, fa2, fa3, fa4, fa5⟩ := HW2.out.res.cells
                have hAlt := HW2.out.res.lt
                have hClt := HW2.out.box.lt
                have hne := HW2.out.ne
                have hwi := fun W => rwith_any S a b W HW2.out.ok (by omega)
                have hok2 := ok_with S a (b + 1 - a) (by omega) HW2.out.ok
                obtain ⟨S2, hS2⟩ : ∃ S2, withR S a (b + 1 - a) = S2 := ⟨_, rfl⟩
                rw [hS2] at HSR hok2
                simp only [hS2] at hwi
                have HWI := Lib.hid hwi
                clear hwi hS2
                unfold setV at HWI
                go_wp2_with fail
                go_fit (HWI.out _)
                rintro e w5 ⟨rfl, hb5⟩
                have HW5 := Lib.hid (HW2.out.below hb5)
                have hT := HW5.out.set S2 hok2
                have HT := Lib.hid hT
                unfold set4N at HT
                clear hT hb5
                clear c0 c1 c2 c3 c4 c5 fc0 fc1 fc2 fc3 fc4 fc5 a0 a1 a2 a3 a4 a5 fa0 fa1 fa2 fa3 fa4 fa5 hAlt hClt hne
                obtain ⟨⟨c0, c1, c2, c3, c4, c5⟩, fc0, fc1, fc2, fc3, fc4, fc5⟩ := HW5.out.box.cells
                obtain ⟨⟨a0, a1, a2, a3, a4, a5⟩, fa0, fa1, fa2, fa3, fa4, fa5⟩ := HW5.out.res.cells
                have hAlt := HW5.out.res.lt
                have hClt := HW5.out.box.lt
                have hne := HW5.out.ne
                have HSP := Lib.hid (And.intro HSR.out hlen)
                clear HW5 HWI HW2
                go_wp2_with fail
                go_roundw
                case rel => exact ⟨k2, m + 1, f, rfl, by go_num, by omega, by omega, ⟨_, HT.out, by rw [decide_eq_false (by omega), ← HSP.out.1]; exact HF.out, HSP.out.2⟩⟩
                case measure => (simp [intOf]; omega)
          · have h45r : (restR s k).head? ≠ some 45 := fun h9 => h45 ((rest_head s k 45).1 h9)
            have HSR := Lib.hid (spans_one (f := f) (S := S) HX.out hL h45r)
            have hlen : (restR s k).length < f := by have := HLN.out; rw [rest_len] at this ⊢; omega
            obtain ⟨cc, hcc⟩ : ∃ cc, atI s k = cc := ⟨_, rfl⟩
            rw [hcc] at HA2 h45
            clear hL HX h45r hcc
            go_wp2_with fail
            go_fit (HL.out _)
            rintro e w2 ⟨rfl, m2, hw2⟩
            have HW2 : Hid (BrkW w w2 A C S) := by rw [hw2]; exact HW.out.drewN m2
            clear hw2
            go_wp2_with fail
            go_fit (HA2.out _)
            rintro e w3 ⟨rfl, rfl⟩
            obtain ⟨⟨c0, c1, c2, c3, c4, c5⟩, fc0, fc1, fc2, fc3, fc4, fc5⟩ := HW2.out.box.cells
            obtain ⟨⟨a0, a1, a2, a3, a4, a5⟩, fa0, fa1, fa2, fa3, fa4, fa5⟩ := HW2.out.res.cells
            have hAlt := HW2.out.res.lt
            have hClt := HW2.out.box.lt
            have hne := HW2.out.ne
            have hwi := fun W => rwith_any S a a W HW2.out.ok (by omega)
            have hok2 := ok_with S a (a + 1 - a) (by omega) HW2.out.ok
            obtain ⟨S2, hS2⟩ : ∃ S2, withR S a (a + 1 - a) = S2 := ⟨_, rfl⟩
            rw [hS2] at HSR hok2
            simp only [hS2] at hwi
            have HWI := Lib.hid hwi
            clear hwi hS2
            unfold setV at HWI
            go_wp2_with fail
            go_fit (HWI.out _)
            rintro e w5 ⟨rfl, hb5⟩
            have HW5 := Lib.hid (HW2.out.below hb5)
            have hT := HW5.out.set S2 hok2
            have HT := Lib.hid hT
            unfold set4N at HT
            clear hT hb5
            clear c0 c1 c2 c3 c4 c5 fc0 fc1 fc2 fc3 fc4 fc5 a0 a1 a2 a3 a4 a5 fa0 fa1 fa2 fa3 fa4 fa5 hAlt hClt hne
            obtain ⟨⟨c0, c1, c2, c3, c4, c5⟩, fc0, fc1, fc2, fc3, fc4, fc5⟩ := HW5.out.box.cells
            obtain ⟨⟨a0, a1, a2, a3, a4, a5⟩, fa0, fa1, fa2, fa3, fa4, fa5⟩ := HW5.out.res.cells
            have hAlt := HW5.out.res.lt
            have hClt := HW5.out.box.lt
            have hne := HW5.out.ne
            have HSP := Lib.hid (And.intro HSR.out hlen)
            clear HW5 HWI HW2
            go_wp2_with fail
            go_roundw
            case rel => exact ⟨k, m + 1, f, rfl, by go_num, by omega, by omega, ⟨_, HT.out, by rw [decide_eq_false (by omega), ← HSP.out.1]; exact HF.out, HSP.out.2⟩⟩
            case measure => (simp [intOf]; omega)
      · have hmi : ((m : Int) == 0) = false := beq_eq_false_iff_ne.2 (by omega)
        have HA1 := Lib.hid (fun W => HAT.out j W (by omega))
        by_cases h93 : atI s j = 93
        · have h93r : (restR s j).head? = some 93 := (rest_head s j 93).2 h93
          rw [h93] at HA1
          have hjs : j < s.size := Classical.byContradiction fun hn => by have h9 : atI s j = -1 := if_neg hn; omega
          have HRS : Hid (RES = some (S, restR s (j + 1))) := by have h9 := HF.out; rw [decide_eq_false hm, spans_fin h93r, rest_tail] at h9; exact h9.symm
          clear h93 h93r hm HF
          have HNN := Lib.hid (HYES.out _ _ HRS.out)
          rw [rest_len, show ((s.size - (s.size - (j + 1)) : Nat) : Int) = (j : Int) + 1 by omega] at HNN
          go_wp2_with fail
          go_fit (HA1.out _)
          rintro e w2 ⟨rfl, rfl⟩
          obtain ⟨hD1, hD2⟩ := HW.out.done
          obtain ⟨⟨y0, y1, y2, y3, y4, y5⟩, _⟩ := hD1.cells
          unfold set6N set4N at y0 y1 y2 y3 y4 y5 hD2
          have Y0 := Lib.hid y0
          have Y1 := Lib.hid y1
          have Y2 := Lib.hid y2
          have Y3 := Lib.hid y3
          have Y4 := Lib.hid y4
          have Y5 := Lib.hid y5
          have HDB := Lib.hid hD2
          clear hD1 hD2 y0 y1 y2 y3 y4 y5
          obtain ⟨⟨c0, c1, c2, c3, c4, c5⟩, fc0, fc1, fc2, fc3, fc4, fc5⟩ := HW.out.box.cells
          obtain ⟨⟨a0, a1, a2, a3, a4, a5⟩, fa0, fa1, fa2, fa3, fa4, fa5⟩ := HW.out.res.cells
          have hAlt := HW.out.res.lt
          have hClt := HW.out.box.lt
          have hne := HW.out.ne
          go_wp2_with fail
          have y0 := Y0.out
          have y1 := Y1.out
          have y2 := Y2.out
          have y3 := Y3.out
          have y4 := Y4.out
          have y5 := Y5.out
          exact bodyPost_ret (v := .tuple #[.agg #[.int .i64 1, .int .u64 ((S).1 : Int), .int .u64 ((S).2.1 : Int), .int .u64 ((S).2.2.1 : Int), .int .u64 ((S).2.2.2 : Int), .slice none 0 0], .int .i64 ((j : Int) + 1)]) (by simp [results, Tryd.results78, go_sem, y0, y1, y2, y3, y4, y5]) rfl ⟨HNN.out, HDB.out⟩
        · have HX : Hid (¬ (decide (m = 0) = false ∧ (restR s j).head? = some 93)) := fun h => h93 ((rest_head s j 93).1 h.2)
          obtain ⟨cj, hcj⟩ : ∃ cj, atI s j = cj := ⟨_, rfl⟩
          rw [hcj] at HA1 h93
          clear hcj
          rcases hL : letR true (restR s j) with _ | ⟨a, r⟩
          · have HL : Hid (∀ W, Calls Tryd.prog 80 #[.string s, .int .i64 (j : Int), .bool true] W fun e w' => e = .returned (.tuple #[.int .u8 0, .int .i64 (-1)]) ∧ ∃ m, w' = W.drewN m) := fun W => by have h9 := HLT.out j true W (by omega); rw [let_not hL] at h9; exact h9
            have HNN := Lib.hid (HNO.out (HF.out.symm.trans (spans_no HX.out hL)))
            clear hL HF HX
            go_wp2_with fail
            go_fit (HA1.out _)
            rintro e w9 ⟨rfl, rfl⟩
            go_wp2_with fail
            go_fit (HL.out _)
            rintro e w2 ⟨rfl, m2, hw2⟩
            have HW2 : Hid (BrkW w w2 A C S) := by rw [hw2]; exact HW.out.drewN m2
            clear hw2
            obtain ⟨hD1, hD2⟩ := HW2.out.done
            obtain ⟨⟨y0, y1, y2, y3, y4, y5⟩, _⟩ := hD1.cells
            unfold set6N set4N at y0 y1 y2 y3 y4 y5 hD2
            have Y0 := Lib.hid y0
            have Y1 := Lib.hid y1
            have Y2 := Lib.hid y2
            have Y3 := Lib.hid y3
            have Y4 := Lib.hid y4
            have Y5 := Lib.hid y5
            have HDB := Lib.hid hD2
            clear hD1 hD2 y0 y1 y2 y3 y4 y5
            obtain ⟨⟨c0, c1, c2, c3, c4, c5⟩, fc0, fc1, fc2, fc3, fc4, fc5⟩ := HW2.out.box.cells
            obtain ⟨⟨a0, a1, a2, a3, a4, a5⟩, fa0, fa1, fa2, fa3, fa4, fa5⟩ := HW2.out.res.cells
            have hAlt := HW2.out.res.lt
            have hClt := HW2.out.box.lt
            have hne := HW2.out.ne
            go_wp2_with fail
            have y0 := Y0.out
            have y1 := Y1.out
            have y2 := Y2.out
            have y3 := Y3.out
            have y4 := Y4.out
            have y5 := Y5.out
            exact bodyPost_ret (v := .tuple #[.agg #[.int .i64 1, .int .u64 ((S).1 : Int), .int .u64 ((S).2.1 : Int), .int .u64 ((S).2.2.1 : Int), .int .u64 ((S).2.2.2 : Int), .slice none 0 0], .int .i64 (-1)]) (by simp [results, Tryd.results78, go_sem, y0, y1, y2, y3, y4, y5]) rfl ⟨HNN.out S HW2.out.ok, HDB.out⟩
          · obtain ⟨k, hjk, hks, hr, hv, ha⟩ := let_at hL
            have HL : Hid (∀ W, Calls Tryd.prog 80 #[.string s, .int .i64 (j : Int), .bool true] W fun e w' => e = .returned (.tuple #[.int .u8 (a : Int), .int .i64 (k : Int)]) ∧ ∃ m, w' = W.drewN m) := fun W => by have h9 := HLT.out j true W (by omega); rw [hv] at h9; exact h9
            have k0 : (0 : Int) ≤ (k : Int) := by omega
            have a0 : (0 : Int) ≤ (a : Int) := by omega
            have a255 : (a : Int) ≤ 255 := by omega
            subst hr
            clear hv
            have HA2 := Lib.hid (fun W => HAT.out k W (by omega))
            by_cases h45 : atI s k = 45
            · have h45r : (restR s k).head? = some 45 := (rest_head s k 45).2 h45
              rw [h45] at HA2
              rcases hM : letR true (restR s (k + 1)) with _ | ⟨b, u⟩
              · have HM : Hid (∀ W, Calls Tryd.prog 80 #[.string s, .int .i64 ((k : Int) + 1), .bool true] W fun e w' => e = .returned (.tuple #[.int .u8 0, .int .i64 (-1)]) ∧ ∃ m, w' = W.drewN m) := fun W => by have h9 := HLT.out (k + 1) true W (by omega); rw [let_not hM] at h9; exact h9
                have HNN := Lib.hid (HNO.out (HF.out.symm.trans (spans_rngNo HX.out hL h45r (by rw [rest_tail]; exact hM))))
                clear hL HF HX h45 h45r hM
                go_wp2_with fail
                go_fit (HA1.out _)
                rintro e w9 ⟨rfl, rfl⟩
                go_wp2_with fail
                go_fit (HL.out _)
                rintro e w2 ⟨rfl, m2, hw2⟩
                have HW2 : Hid (BrkW w w2 A C S) := by rw [hw2]; exact HW.out.drewN m2
                clear hw2
                go_wp2_with fail
                go_fit (HA2.out _)
                rintro e w3 ⟨rfl, rfl⟩
                go_wp2_with fail
                go_fit (HM.out _)
                rintro e w4 ⟨rfl, m4, hw4⟩
                have HW3 : Hid (BrkW w w4 A C S) := by rw [hw4]; exact HW2.out.drewN m4
                clear hw4 HW2
                have HW2 := HW3
                clear HW3
                obtain ⟨hD1, hD2⟩ := HW2.out.done
                obtain ⟨⟨y0, y1, y2, y3, y4, y5⟩, _⟩ := hD1.cells
                unfold set6N set4N at y0 y1 y2 y3 y4 y5 hD2
                have Y0 := Lib.hid y0
                have Y1 := Lib.hid y1
                have Y2 := Lib.hid y2
                have Y3 := Lib.hid y3
                have Y4 := Lib.hid y4
                have Y5 := Lib.hid y5
                have HDB := Lib.hid hD2
                clear hD1 hD2 y0 y1 y2 y3 y4 y5
                obtain ⟨⟨c0, c1, c2, c3, c4, c5⟩, fc0, fc1, fc2, fc3, fc4, fc5⟩ := HW2.out.box.cells
                obtain ⟨⟨a0, a1, a2, a3, a4, a5⟩, fa0, fa1, fa2, fa3, fa4, fa5⟩ := HW2.out.res.cells
                have hAlt := HW2.out.res.lt
                have hClt := HW2.out.box.lt
                have hne := HW2.out.ne
                go_wp2_with fail
                have y0 := Y0.out
                have y1 := Y1.out
                have y2 := Y2.out
                have y3 := Y3.out
                have y4 := Y4.out
                have y5 := Y5.out
                exact bodyPost_ret (v := .tuple #[.agg #[.int .i64 1, .int .u64 ((S).1 : Int), .int .u64 ((S).2.1 : Int), .int .u64 ((S).2.2.1 : Int), .int .u64 ((S).2.2.2 : Int), .slice none 0 0], .int .i64 (-1)]) (by simp [results, Tryd.results78, go_sem, y0, y1, y2, y3, y4, y5]) rfl ⟨HNN.out S HW2.out.ok, HDB.out⟩
              · obtain ⟨k2, hkk, hk2, hu, hv, hb⟩ := let_at hM
                have HM : Hid (∀ W, Calls Tryd.prog 80 #[.string s, .int .i64 ((k : Int) + 1), .bool true] W fun e w' => e = .returned (.tuple #[.int .u8 (b : Int), .int .i64 (k2 : Int)]) ∧ ∃ m, w' = W.drewN m) := fun W => by have h9 := HLT.out (k + 1) true W (by omega); rw [hv] at h9; exact h9
                have k20 : (0 : Int) ≤ (k2 : Int) := by omega
                have b0 : (0 : Int) ≤ (b : Int) := by omega
                have b255 : (b : Int) ≤ 255 := by omega
                subst hu
                clear hv
                by_cases hlt : b < a
                · have hlti : (b : Int) < (a : Int) := by omega
                  have HNN := Lib.hid (HNO.out (HF.out.symm.trans (spans_rngLess HX.out hL h45r (by rw [rest_tail]; exact hM) hlt)))
                  clear hL HF HX h45 h45r hM hlt
                  go_wp2_with fail
                  go_fit (HA1.out _)
                  rintro e w9 ⟨rfl, rfl⟩
                  go_wp2_with fail
                  go_fit (HL.out _)
                  rintro e w2 ⟨rfl, m2, hw2⟩
                  have HW2 : Hid (BrkW w w2 A C S) := by rw [hw2]; exact HW.out.drewN m2
                  clear hw2
                  go_wp2_with fail
                  go_fit (HA2.out _)
                  rintro e w3 ⟨rfl, rfl⟩
                  go_wp2_with fail
                  go_fit (HM.out _)
                  rintro e w4 ⟨rfl, m4, hw4⟩
                  have HW3 : Hid (BrkW w w4 A C S) := by rw [hw4]; exact HW2.out.drewN m4
                  clear hw4 HW2
                  have HW2 := HW3
                  clear HW3
                  obtain ⟨hD1, hD2⟩ := HW2.out.done
                  obtain ⟨⟨y0, y1, y2, y3, y4, y5⟩, _⟩ := hD1.cells
                  unfold set6N set4N at y0 y1 y2 y3 y4 y5 hD2
                  have Y0 := Lib.hid y0
                  have Y1 := Lib.hid y1
                  have Y2 := Lib.hid y2
                  have Y3 := Lib.hid y3
                  have Y4 := Lib.hid y4
                  have Y5 := Lib.hid y5
                  have HDB := Lib.hid hD2
                  clear hD1 hD2 y0 y1 y2 y3 y4 y5
                  obtain ⟨⟨c0, c1, c2, c3, c4, c5⟩, fc0, fc1, fc2, fc3, fc4, fc5⟩ := HW2.out.box.cells
                  obtain ⟨⟨a0, a1, a2, a3, a4, a5⟩, fa0, fa1, fa2, fa3, fa4, fa5⟩ := HW2.out.res.cells
                  have hAlt := HW2.out.res.lt
                  have hClt := HW2.out.box.lt
                  have hne := HW2.out.ne
                  go_wp2_with fail
                  have y0 := Y0.out
                  have y1 := Y1.out
                  have y2 := Y2.out
                  have y3 := Y3.out
                  have y4 := Y4.out
                  have y5 := Y5.out
                  exact bodyPost_ret (v := .tuple #[.agg #[.int .i64 1, .int .u64 ((S).1 : Int), .int .u64 ((S).2.1 : Int), .int .u64 ((S).2.2.1 : Int), .int .u64 ((S).2.2.2 : Int), .slice none 0 0], .int .i64 (-1)]) (by simp [results, Tryd.results78, go_sem, y0, y1, y2, y3, y4, y5]) rfl ⟨HNN.out S HW2.out.ok, HDB.out⟩
                · have hlti : (a : Int) ≤ (b : Int) := by omega
                  have HSR := Lib.hid (spans_rng (f := f) (S := S) HX.out hL h45r (by rw [rest_tail]; exact hM) hlt)
                  have hlen : (restR s k2).length < f := by have := HLN.out; rw [rest_len] at this ⊢; omega
                  clear hL HX h45 h45r hM hlt
                  go_wp2_with fail
                  go_fit (HA1.out _)
                  rintro e w9 ⟨rfl, rfl⟩
                  go_wp2_with fail
                  go_fit (HL.out _)
                  rintro e w2 ⟨rfl, m2, hw2⟩
                  have HW2 : Hid (BrkW w w2 A C S) := by rw [hw2]; exact HW.out.drewN m2
                  clear hw2
                  go_wp2_with fail
                  go_fit (HA2.out _)
                  rintro e w3 ⟨rfl, rfl⟩
                  go_wp2_with fail
                  go_fit (HM.out _)
                  rintro e w4 ⟨rfl, m4, hw4⟩
                  have HW3 : Hid (BrkW w w4 A C S) := by rw [hw4]; exact HW2.out.drewN m4
                  clear hw4 HW2
                  have HW2 := HW3
                  clear HW3
                  obtain ⟨⟨c0, c1, c2, c3, c4, c5⟩, fc0, fc1, fc2, fc3, fc4, fc5⟩ := HW2.out.box.cells
                  obtain ⟨⟨a0, a1, a2, a3, a4, a5⟩, fa0, fa1, fa2, fa3, fa4, fa5⟩ := HW2.out.res.cells
                  have hAlt := HW2.out.res.lt
                  have hClt := HW2.out.box.lt
                  have hne := HW2.out.ne
                  have hwi := fun W => rwith_any S a b W HW2.out.ok (by omega)
                  have hok2 := ok_with S a (b + 1 - a) (by omega) HW2.out.ok
                  obtain ⟨S2, hS2⟩ : ∃ S2, withR S a (b + 1 - a) = S2 := ⟨_, rfl⟩
                  rw [hS2] at HSR hok2
                  simp only [hS2] at hwi
                  have HWI := Lib.hid hwi
                  clear hwi hS2
                  unfold setV at HWI
                  go_wp2_with fail
                  go_fit (HWI.out _)
                  rintro e w5 ⟨rfl, hb5⟩
                  have HW5 := Lib.hid (HW2.out.below hb5)
                  have hT := HW5.out.set S2 hok2
                  have HT := Lib.hid hT
                  unfold set4N at HT
                  clear hT hb5
                  clear c0 c1 c2 c3 c4 c5 fc0 fc1 fc2 fc3 fc4 fc5 a0 a1 a2 a3 a4 a5 fa0 fa1 fa2 fa3 fa4 fa5 hAlt hClt hne
                  obtain ⟨⟨c0, c1, c2, c3, c4, c5⟩, fc0, fc1, fc2, fc3, fc4, fc5⟩ := HW5.out.box.cells
                  obtain ⟨⟨a0, a1, a2, a3, a4, a5⟩, fa0, fa1, fa2, fa3, fa4, fa5⟩ := HW5.out.res.cells
                  have hAlt := HW5.out.res.lt
                  have hClt := HW5.out.box.lt
                  have hne := HW5.out.ne
                  have HSP := Lib.hid (And.intro HSR.out hlen)
                  clear HW5 HWI HW2
                  go_wp2_with fail
                  go_roundw
                  case rel => exact ⟨k2, m + 1, f, rfl, by go_num, by omega, by omega, ⟨_, HT.out, by rw [decide_eq_false (by omega), ← HSP.out.1]; exact HF.out, HSP.out.2⟩⟩
                  case measure => (simp [intOf]; omega)
            · have h45r : (restR s k).head? ≠ some 45 := fun h9 => h45 ((rest_head s k 45).1 h9)
              have HSR := Lib.hid (spans_one (f := f) (S := S) HX.out hL h45r)
              have hlen : (restR s k).length < f := by have := HLN.out; rw [rest_len] at this ⊢; omega
              obtain ⟨cc, hcc⟩ : ∃ cc, atI s k = cc := ⟨_, rfl⟩
              rw [hcc] at HA2 h45
              clear hL HX h45r hcc
              go_wp2_with fail
              go_fit (HA1.out _)
              rintro e w9 ⟨rfl, rfl⟩
              go_wp2_with fail
              go_fit (HL.out _)
              rintro e w2 ⟨rfl, m2, hw2⟩
              have HW2 : Hid (BrkW w w2 A C S) := by rw [hw2]; exact HW.out.drewN m2
              clear hw2
              go_wp2_with fail
              go_fit (HA2.out _)
              rintro e w3 ⟨rfl, rfl⟩
              obtain ⟨⟨c0, c1, c2, c3, c4, c5⟩, fc0, fc1, fc2, fc3, fc4, fc5⟩ := HW2.out.box.cells
              obtain ⟨⟨a0, a1, a2, a3, a4, a5⟩, fa0, fa1, fa2, fa3, fa4, fa5⟩ := HW2.out.res.cells
              have hAlt := HW2.out.res.lt
              have hClt := HW2.out.box.lt
              have hne := HW2.out.ne
              have hwi := fun W => rwith_any S a a W HW2.out.ok (by omega)
              have hok2 := ok_with S a (a + 1 - a) (by omega) HW2.out.ok
              obtain ⟨S2, hS2⟩ : ∃ S2, withR S a (a + 1 - a) = S2 := ⟨_, rfl⟩
              rw [hS2] at HSR hok2
              simp only [hS2] at hwi
              have HWI := Lib.hid hwi
              clear hwi hS2
              unfold setV at HWI
              go_wp2_with fail
              go_fit (HWI.out _)
              rintro e w5 ⟨rfl, hb5⟩
              have HW5 := Lib.hid (HW2.out.below hb5)
              have hT := HW5.out.set S2 hok2
              have HT := Lib.hid hT
              unfold set4N at HT
              clear hT hb5
              clear c0 c1 c2 c3 c4 c5 fc0 fc1 fc2 fc3 fc4 fc5 a0 a1 a2 a3 a4 a5 fa0 fa1 fa2 fa3 fa4 fa5 hAlt hClt hne
              obtain ⟨⟨c0, c1, c2, c3, c4, c5⟩, fc0, fc1, fc2, fc3, fc4, fc5⟩ := HW5.out.box.cells
              obtain ⟨⟨a0, a1, a2, a3, a4, a5⟩, fa0, fa1, fa2, fa3, fa4, fa5⟩ := HW5.out.res.cells
              have hAlt := HW5.out.res.lt
              have hClt := HW5.out.box.lt
              have hne := HW5.out.ne
              have HSP := Lib.hid (And.intro HSR.out hlen)
              clear HW5 HWI HW2
              go_wp2_with fail
              go_roundw
              case rel => exact ⟨k, m + 1, f, rfl, by go_num, by omega, by omega, ⟨_, HT.out, by rw [decide_eq_false (by omega), ← HSP.out.1]; exact HF.out, HSP.out.2⟩⟩
              case measure => (simp [intOf]; omega)
end Go.Proofs.YtkopbngnhgdfhaaDoor
