/-
  utf8.FullRune, keys.starts: what each call returns: for every slice of a byte or more. The two tables of the library's package are laid.
-/
import Derived.Deep.QuietTactic
import Derived.BigQuiet
import Derived.Deep.DeepFit
import Derived.Test.YtdnldfgolbcjiaaDoorBe9
namespace Go.Proofs.YtdnldfgolbcjiaaDoor
open Go.RowKit

def fstB (b : Nat) : Nat := if b < 128 then 240 else if b < 194 then 241 else if b < 224 then 2 else if b = 224 then 19 else if b = 237 then 35 else if b < 240 then 3 else if b = 240 then 52 else if b < 244 then 4 else if b = 244 then 68 else 241
def accLo (i : Nat) : Nat := [128, 160, 128, 144, 128].getD i 0
def accHi (i : Nat) : Nat := [191, 191, 159, 191, 143].getD i 0
/-- What the two tables hold. -/
structure TabU (w : World) : Prop where
  lt : 2 < w.heap.size ∧ 3 < w.heap.size
  fst : ∀ k, k < 256 → w.cell? ⟨2, k, none⟩ = some (.int .u8 (fstB k : Nat))
  acc : ∀ i, i < 16 → w.cell? ⟨3, i * 2, none⟩ = some (.int .u8 (accLo i : Nat)) ∧ w.cell? ⟨3, i * 2 + 1, none⟩ = some (.int .u8 (accHi i : Nat))
theorem TabU.below {w w' : World} (h : TabU w) (hb : Below w.heap.size w w') : TabU w' :=
  ⟨⟨Nat.lt_of_lt_of_le h.lt.1 hb.size, Nat.lt_of_lt_of_le h.lt.2 hb.size⟩, fun k hk => by rw [hb.cell (p := ⟨2, k, none⟩) h.lt.1]; exact h.fst k hk,
    fun i hi => ⟨by rw [hb.cell (p := ⟨3, i * 2, none⟩) h.lt.2]; exact (h.acc i hi).1, by rw [hb.cell (p := ⟨3, i * 2 + 1, none⟩) h.lt.2]; exact (h.acc i hi).2⟩⟩

def sizN (b : Nat) : Nat := if b < 128 then 0 else if b < 194 then 1 else if b < 224 then 2 else if b < 240 then 3 else if b < 245 then 4 else 1
def accN (b : Nat) : Nat := if b = 224 then 1 else if b = 237 then 2 else if b = 240 then 3 else if b = 244 then 4 else if 194 ≤ b ∧ b < 245 then 0 else 15
theorem fst_bits : ∀ b : Fin 256, wrap64 (bits BinOp.and IntKind.u8 (fstB b.val : Nat) 7) = (sizN b.val : Int) := by decide +kernel
theorem fst_mod : ∀ b : Fin 256, (fstB b.val : Int) % 8 = (sizN b.val : Int) := by decide +kernel
theorem fst_shr : ∀ b : Fin 256, fstB b.val / 16 = accN b.val := by decide +kernel
theorem acc_lo : ∀ b : Fin 256, 194 ≤ b.val → b.val < 245 → accLo (accN b.val) = loB b.val ∧ accHi (accN b.val) = hiB b.val := by decide +kernel

set_option maxRecDepth 20000 in
set_option maxHeartbeats 4000000 in
theorem kfull_any (s : ByteArray) (sl : Value) (w : World) (hT : TabU w) (h0 : 0 < s.size) (hs : s.size ≤ maxLen) (hV : BytesW w sl s) :
    Calls Tryd.prog 68 #[sl] w fun e w' => e = .returned (.bool (!begB s)) ∧ Below w.heap.size w w' := by
  unfold maxLen at hs
  have hl := bt_lt s 0
  obtain ⟨G, O, cp, rfl, hcp, hcs⟩ := hV.cells h0
  have hGl : G < w.heap.size := rlt (hcs 0 h0)
  have e0 := hcs 0 h0
  rw [Nat.add_zero] at e0
  have HCS := Lib.hid hcs
  clear hV hcs
  obtain ⟨b, hb⟩ : ∃ b, bt s 0 = b := ⟨_, rfl⟩
  rw [hb] at hl e0
  have c0 := hT.fst b hl
  have f1 := fst_bits ⟨b, hl⟩
  have f2 := fst_shr ⟨b, hl⟩
  have f3 := fst_mod ⟨b, hl⟩
  simp only at f1 f2 f3
  obtain ⟨F, hF⟩ : ∃ F : Nat, fstB b = F := ⟨_, rfl⟩
  rw [hF] at c0 f1 f2 f3
  have hN4 : sizN b ≤ 4 := by
    unfold sizN
    repeat' split
    all_goals omega
  by_cases h1 : sizN b ≤ s.size
  · have hR : Hid (begB s = false) := by
      refine decide_eq_false fun h => ?_
      have hz : sizN b ≤ s.size := h1
      unfold Beg at h
      rw [hb] at h
      unfold sizN at hz
      repeat' split at hz
      all_goals omega
    obtain ⟨N, hN⟩ : ∃ N, sizN b = N := ⟨_, rfl⟩
    rw [hN] at f1 h1 hN4
    have hq : wrap64 (bits BinOp.and IntKind.u8 (F : Int) 7) ≤ (s.size : Int) := Int.le_trans (Int.le_of_eq f1) (Int.ofNat_le.2 h1)
    clear hF hb hT f1 f2 f3 hN
    go_enter Tryd.func68, Tryd.ntmps68
    go_wp2_with fail
    go_ret
    exact ⟨by rw [hR.out]; rfl, Below.refl _ _⟩
  · have hb2 : 194 ≤ b ∧ b < 245 := by
      unfold sizN at h1
      repeat' split at h1
      all_goals omega
    have hA : accN b < 5 := by
      unfold accN
      repeat' split
      all_goals omega
    obtain ⟨a1, a2⟩ := hT.acc (accN b) (by omega)
    obtain ⟨e1, e2⟩ := acc_lo ⟨b, hl⟩ hb2.1 hb2.2
    simp only at e1 e2
    rw [e1] at a1
    rw [e2] at a2
    have HB2 := Lib.hid hb2
    have HB := Lib.hid hb
    obtain ⟨N, hN⟩ : ∃ N, sizN b = N := ⟨_, rfl⟩
    obtain ⟨A, hA2⟩ : ∃ A, accN b = A := ⟨_, rfl⟩
    obtain ⟨Lo, hLo⟩ : ∃ Lo, loB b = Lo := ⟨_, rfl⟩
    obtain ⟨Hi, hHi⟩ : ∃ Hi, hiB b = Hi := ⟨_, rfl⟩
    rw [hN] at f1 f3 h1 hN4
    rw [hA2] at f2 a1 a2 hA
    rw [hLo] at a1
    rw [hHi] at a2
    have HN := Lib.hid hN
    have HLo := Lib.hid hLo
    have HHi := Lib.hid hHi
    have hq : (s.size : Int) < wrap64 (bits BinOp.and IntKind.u8 (F : Int) 7) := Int.lt_of_lt_of_le (Int.ofNat_lt.2 (Nat.lt_of_not_le h1)) (Int.le_of_eq f1.symm)
    have hq2 : (s.size : Int) < (F : Int) % 8 := Int.lt_of_lt_of_le (Int.ofNat_lt.2 (Nat.lt_of_not_le h1)) (Int.le_of_eq f3.symm)
    rw [← f2] at a1 a2
    have h16 : (F : Int) / 16 < 16 := by omega
    have h17 : (0 : Int) ≤ (F : Int) / 16 := by omega
    clear hF hb hT e1 e2 hb2 hN hA2 hLo hHi f1 f2 f3
    have HX := Lib.hid (fun (r : Bool) (h : r = true ↔ Beg s) => (show begB s = r by unfold begB; cases r <;> simp_all))
    have HS : Hid (s.size < N ∧ N ≤ 4 ∧ (N = if b < 224 then 2 else if b < 240 then 3 else 4)) := by
      have h2 := HN.out
      have h3 := HB2.out
      refine ⟨by omega, hN4, ?_⟩
      unfold sizN at h2
      rw [if_neg (by omega), if_neg (by omega)] at h2
      rw [← h2]
      repeat' split
      all_goals omega
    by_cases n1 : 1 < s.size
    · have eb := HCS.out 1 n1
      obtain ⟨c, hc⟩ : ∃ c, bt s 1 = c := ⟨_, rfl⟩
      rw [hc] at eb
      have n1i : (1 : Int) < (s.size : Int) := by omega
      have HC := Lib.hid hc
      clear hc
      by_cases l1 : c < Lo
      · have HR : Hid (begB s = false) := HX.out false (by
          have := HC.out; have := HLo.out; have := HHi.out; have := HS.out; have := HB2.out
          unfold Beg
          rw [HB.out]
          simp only [Bool.false_eq_true, false_iff]
          omega)
        have l1i : (c : Int) < (Lo : Int) := by omega
        clear HX HS HN HLo HHi HB HC
        go_enter Tryd.func68, Tryd.ntmps68
        go_wp2_with fail
        go_quiet (fail)
        go_wp2_with fail
        go_ret
        exact ⟨by rw [HR.out]; rfl, below_drewN ((Below.refl _ w).alloc (Nat.le_refl _) _) nq⟩
      · have l1i : (Lo : Int) ≤ (c : Int) := by omega
        by_cases l2 : Hi < c
        · have HR : Hid (begB s = false) := HX.out false (by
            have := HC.out; have := HLo.out; have := HHi.out; have := HS.out; have := HB2.out
            unfold Beg
            rw [HB.out]
            simp only [Bool.false_eq_true, false_iff]
            omega)
          have l2i : (Hi : Int) < (c : Int) := by omega
          clear HX HS HN HLo HHi HB HC
          go_enter Tryd.func68, Tryd.ntmps68
          go_wp2_with fail
          go_quiet (fail)
          go_wp2_with fail
          go_ret
          exact ⟨by rw [HR.out]; rfl, below_drewN ((Below.refl _ w).alloc (Nat.le_refl _) _) nq⟩
        · have l2i : (c : Int) ≤ (Hi : Int) := by omega
          by_cases n2 : 2 < s.size
          · have ed := HCS.out 2 n2
            obtain ⟨d, hd⟩ : ∃ d, bt s 2 = d := ⟨_, rfl⟩
            rw [hd] at ed
            have n2i : (2 : Int) < (s.size : Int) := by omega
            have HD := Lib.hid hd
            clear hd
            by_cases l3 : d < 128
            · have HR : Hid (begB s = false) := HX.out false (by
                have := HC.out; have := HLo.out; have := HHi.out; have := HS.out; have := HB2.out; have := HD.out
                unfold Beg
                rw [HB.out]
                simp only [Bool.false_eq_true, false_iff]
                omega)
              have l3i : (d : Int) < 128 := by omega
              clear HX HS HN HLo HHi HB HC HD
              go_enter Tryd.func68, Tryd.ntmps68
              go_wp2_with fail
              go_quiet (fail)
              go_wp2_with fail
              go_ret
              exact ⟨by rw [HR.out]; rfl, below_drewN ((Below.refl _ w).alloc (Nat.le_refl _) _) nq⟩
            · have l3i : (128 : Int) ≤ (d : Int) := by omega
              by_cases l4 : 191 < d
              · have HR : Hid (begB s = false) := HX.out false (by
                  have := HC.out; have := HLo.out; have := HHi.out; have := HS.out; have := HB2.out; have := HD.out
                  unfold Beg
                  rw [HB.out]
                  simp only [Bool.false_eq_true, false_iff]
                  omega)
                have l4i : (191 : Int) < (d : Int) := by omega
                clear HX HS HN HLo HHi HB HC HD
                go_enter Tryd.func68, Tryd.ntmps68
                go_wp2_with fail
                go_quiet (fail)
                go_wp2_with fail
                go_ret
                exact ⟨by rw [HR.out]; rfl, below_drewN ((Below.refl _ w).alloc (Nat.le_refl _) _) nq⟩
              · have l4i : (d : Int) ≤ 191 := by omega
                have HR : Hid (begB s = true) := HX.out true (by
                  have := HC.out; have := HLo.out; have := HHi.out; have hs := HS.out; have := HB2.out; have := HD.out
                  unfold Beg
                  rw [HB.out]
                  simp only [true_iff]
                  obtain ⟨s1, s2, s3⟩ := hs
                  split at s3 <;> try split at s3
                  all_goals omega)
                clear HX HS HN HLo HHi HB HC HD
                go_enter Tryd.func68, Tryd.ntmps68
                go_wp2_with fail
                go_quiet (fail)
                go_wp2_with fail
                go_ret
                exact ⟨by rw [HR.out]; rfl, below_drewN ((Below.refl _ w).alloc (Nat.le_refl _) _) nq⟩
          · have n2i : (s.size : Int) ≤ 2 := by omega
            have HR : Hid (begB s = true) := HX.out true (by
              have := HC.out; have := HLo.out; have := HHi.out; have hs := HS.out; have := HB2.out
              unfold Beg
              rw [HB.out]
              simp only [true_iff]
              obtain ⟨s1, s2, s3⟩ := hs
              split at s3 <;> try split at s3
              all_goals omega)
            clear HX HS HN HLo HHi HB HC
            go_enter Tryd.func68, Tryd.ntmps68
            go_wp2_with fail
            go_quiet (fail)
            go_wp2_with fail
            go_ret
            exact ⟨by rw [HR.out]; rfl, below_drewN ((Below.refl _ w).alloc (Nat.le_refl _) _) nq⟩
    · have n1i : (s.size : Int) ≤ 1 := by omega
      have n1d : decide ((1 : Int) < (s.size : Int)) = false := decide_eq_false (by omega)
      have n2i : (s.size : Int) ≤ 2 := by omega
      have HR : Hid (begB s = true) := HX.out true (by
        have := HB2.out
        unfold Beg
        rw [HB.out]
        simp only [true_iff]
        omega)
      clear HX HS HN HLo HHi HB
      go_enter Tryd.func68, Tryd.ntmps68
      go_wp2_with fail
      go_quiet (fail)
      go_wp2_with fail
      go_ret
      exact ⟨by rw [HR.out]; rfl, below_drewN ((Below.refl _ w).alloc (Nat.le_refl _) _) nq⟩
set_option maxHeartbeats 1000000 in
theorem kstarts_any (s : ByteArray) (sl : Value) (w : World) (hT : TabU w) (h0 : 0 < s.size) (hs : s.size ≤ maxLen) (hV : BytesW w sl s) :
    Calls Tryd.prog 58 #[sl] w fun e w' => e = .returned (.bool (begB s)) ∧ Below w.heap.size w w' := by
  have H := Lib.hid (kfull_any s sl w hT h0 hs hV)
  clear hT h0 hs hV
  go_enter Tryd.func58, Tryd.ntmps58
  go_wp2_with fail
  go_fit (H.out)
  rintro e w' ⟨rfl, hb⟩
  go_wp2_with fail
  go_ret
  exact ⟨by cases begB s <;> rfl, hb⟩
end Go.Proofs.YtdnldfgolbcjiaaDoor
