/-
  limnerref06.mend: what it leaves of a row that lies in a block known whole.
-/
import Derived.Test.YtdibpoecdjnpaaaDoorBa22
namespace Go.Proofs.YtdibpoecdjnpaaaDoor
open Go.RowKit

set_option maxHeartbeats 8000000 in
theorem mend_any {B a n cap : Nat} {L : List Cel} {zs : List Value} (w : World) (h : blkL w B L zs) (hr : a + n ≤ L.length) (hn : n ≤ 1000) :
    Calls Tryd.prog 42 #[.slice (some ⟨B, a * 6, none⟩) n cap] w fun e w' => e = .returned (.tuple #[]) ∧ blkL w' B (L.take a ++ mendL ((L.drop a).take n) ++ L.drop (a + n)) zs ∧ KeepW (fun k => k ≠ B) w w' := by
  have HE := Lib.hid (mix_end hr)
  have H0 : Hid (blkL w B (mixL L a n 0) zs) := by show blkL _ _ _ _; rw [mix_zero]; exact h
  have hlt := h.lt
  clear h
  go_enter Tryd.func42, Tryd.ntmps42
  go_wp2
  go_loopw [2] (fun s2 wr => ∃ i : Nat, s2 = .int .i64 (i : Int) ∧ i ≤ n ∧ Hid (blkL wr B (mixL L a n i) zs) ∧ Hid (KeepW (fun k => k ≠ B) w wr)) (fun s2 _ => n - (intOf s2).toNat)
  case atStart => exact ⟨0, rfl, Nat.zero_le _, H0, KeepW.refl _ _⟩
  case round =>
    obtain ⟨i, rfl, hi, HB, HK⟩ := hrel
    clear H0
    by_cases hin : i < n
    · obtain ⟨c, hc⟩ : ∃ c, ((L.drop a).take n)[i]? = some c := ⟨_, List.getElem?_eq_getElem (by rw [List.length_take, List.length_drop]; omega)⟩
      have hst := mix_step hr hin hc
      have hw := mend_ways hr hin hc
      have hcM : (mixL L a n i)[a + i]? = some c := by rw [mix_at hr hi i hin, if_neg (by omega)]; exact hc
      have hlenM := mix_len hr hi
      obtain ⟨x, hx⟩ : ∃ x, i + 1 = x := ⟨_, rfl⟩
      have hx1 : (i : Int) + 1 = (x : Int) := by omega
      obtain ⟨M, hM⟩ : ∃ M, mixL L a n i = M := ⟨_, rfl⟩
      rw [hM] at HB hst hw hcM hlenM
      rw [hx] at hst hw
      obtain ⟨z, hz⟩ : ∃ z, (L.drop a).take n = z := ⟨_, rfl⟩
      rw [hz] at hst hw
      obtain ⟨_, c1, _⟩ := HB.out.cells hcM
      rw [Nat.add_mul] at c1
      have i1 : (i : Int) < (n : Int) := by omega
      have i2 : (0 : Int) ≤ (i : Int) := by omega
      have i3 : (n : Int) ≤ 1000 := by omega
      have hxn : x ≤ n := by omega
      have HX := Lib.hid hx
      have HS : Hid (∀ w2, Below wr.heap.size wr w2 → blkL (set6 w2 B ((a + i) * 6) blkC) B (M.set (a + i) blkC) zs ∧ KeepW (fun k => k ≠ B) w (set6 w2 B ((a + i) * 6) blkC) ∧ cell6 w2 B ((a + i) * 6) c ∧ (∀ p, w2.frozen? ⟨B, p, none⟩ = false) ∧ B < w2.heap.size) := fun w2 hb => by
        have h2 := HB.out.below hb HB.out.lt
        exact ⟨h2.set (a + i) blkC (by rw [hlenM]; omega), (HK.out.trans (keep_below _ hb)).trans (set6_keep _ _ _ _ fun k => k rfl), h2.cells hcM, h2.frozen, h2.lt⟩
      have HBk := Lib.hid (fun w => blank_any w)
      have HC2 : Hid (∀ j d, M[a + j]? = some d → cell6 wr B (a * 6 + j * 6) d) := fun j d hd => by
        have := HB.out.cells hd
        rwa [Nat.add_mul] at this
      clear hc hcM hlenM hM hz hx
      rcases hw with ⟨hb, hw⟩ | ⟨hb, hw⟩
      · rw [hb, if_pos rfl] at hst
        have HST := Lib.hid hst
        clear hst hb
        rcases hw with ⟨h2, hn2⟩ | ⟨d, h2, hn2, hd, h0⟩ | ⟨h0, hi0⟩ | ⟨y, q, h0, hy, hq, h2⟩
        · have b2 : (c.2.1 == 2) = true := by simpa using h2
          have b3 : ((x : Int) == (n : Int)) = true := by rw [beq_iff_eq]; omega
          clear h2 hn2 HC2
          go_wp2_with fail
          go_fit (HBk.out _)
          rintro e w2 ⟨rfl, hb2⟩
          obtain ⟨k1, k2, ⟨e0, e1, e2, e3, e4, e5⟩, kf, kl⟩ := HS.out w2 hb2
          have K1 := Lib.hid k1
          have K2 := Lib.hid k2
          rw [Nat.add_mul] at e0 e1 e2 e3 e4 e5
          have f0 := kf (a * 6 + i * 6)
          have f1 := kf (a * 6 + i * 6 + 1)
          have f2 := kf (a * 6 + i * 6 + 2)
          have f3 := kf (a * 6 + i * 6 + 3)
          have f4 := kf (a * 6 + i * 6 + 4)
          have f5 := kf (a * 6 + i * 6 + 5)
          clear k1 k2 kf hb2 HS HBk
          go_wp2
          go_roundw
          case rel =>
            have q1 := K1.out
            have q2 := K2.out
            unfold set6 at q1 q2
            rw [Nat.add_mul] at q1 q2
            exact ⟨x, rfl, hxn, by show blkL _ _ _ _; rw [HST.out]; exact q1, q2⟩
          case measure => simp [intOf]; have := HX.out; omega
        · have b2 : (c.2.1 == 2) = true := by simpa using h2
          have b3 : ((x : Int) == (n : Int)) = false := by rw [beq_eq_false_iff_ne]; omega
          obtain ⟨_, d1, _⟩ := HC2.out _ d hd
          have b4 : (d.2.1 != 0) = true := by simpa using h0
          have i5 : (x : Int) < (n : Int) := by omega
          clear h2 hn2 HC2 hd h0
          go_wp2_with fail
          go_fit (HBk.out _)
          rintro e w2 ⟨rfl, hb2⟩
          obtain ⟨k1, k2, ⟨e0, e1, e2, e3, e4, e5⟩, kf, kl⟩ := HS.out w2 hb2
          have K1 := Lib.hid k1
          have K2 := Lib.hid k2
          rw [Nat.add_mul] at e0 e1 e2 e3 e4 e5
          have f0 := kf (a * 6 + i * 6)
          have f1 := kf (a * 6 + i * 6 + 1)
          have f2 := kf (a * 6 + i * 6 + 2)
          have f3 := kf (a * 6 + i * 6 + 3)
          have f4 := kf (a * 6 + i * 6 + 4)
          have f5 := kf (a * 6 + i * 6 + 5)
          clear k1 k2 kf hb2 HS HBk
          go_wp2
          go_roundw
          case rel =>
            have q1 := K1.out
            have q2 := K2.out
            unfold set6 at q1 q2
            rw [Nat.add_mul] at q1 q2
            exact ⟨x, rfl, hxn, by show blkL _ _ _ _; rw [HST.out]; exact q1, q2⟩
          case measure => simp [intOf]; have := HX.out; omega
        · have b2 : (c.2.1 == 2) = false := by rw [beq_eq_false_iff_ne]; omega
          have b5 : (c.2.1 == 0) = true := by simpa using h0
          have b6 : ((i : Int) == 0) = true := by rw [beq_iff_eq]; omega
          clear h0 hi0 HC2
          go_wp2_with fail
          go_fit (HBk.out _)
          rintro e w2 ⟨rfl, hb2⟩
          obtain ⟨k1, k2, ⟨e0, e1, e2, e3, e4, e5⟩, kf, kl⟩ := HS.out w2 hb2
          have K1 := Lib.hid k1
          have K2 := Lib.hid k2
          rw [Nat.add_mul] at e0 e1 e2 e3 e4 e5
          have f0 := kf (a * 6 + i * 6)
          have f1 := kf (a * 6 + i * 6 + 1)
          have f2 := kf (a * 6 + i * 6 + 2)
          have f3 := kf (a * 6 + i * 6 + 3)
          have f4 := kf (a * 6 + i * 6 + 4)
          have f5 := kf (a * 6 + i * 6 + 5)
          clear k1 k2 kf hb2 HS HBk
          go_wp2
          go_roundw
          case rel =>
            have q1 := K1.out
            have q2 := K2.out
            unfold set6 at q1 q2
            rw [Nat.add_mul] at q1 q2
            exact ⟨x, rfl, hxn, by show blkL _ _ _ _; rw [HST.out]; exact q1, q2⟩
          case measure => simp [intOf]; have := HX.out; omega
        · have b2 : (c.2.1 == 2) = false := by rw [beq_eq_false_iff_ne]; omega
          have b5 : (c.2.1 == 0) = true := by simpa using h0
          have b6 : ((i : Int) == 0) = false := by rw [beq_eq_false_iff_ne]; omega
          have hy1 : (i : Int) - 1 = (y : Int) := by omega
          obtain ⟨_, d1, _⟩ := HC2.out _ q hq
          have b7 : (q.2.1 != 2) = true := by simpa using h2
          have i6 : (1 : Int) ≤ (i : Int) := by omega
          have i7 : (y : Int) < (n : Int) := by omega
          clear h0 hy hq h2 HC2
          go_wp2_with fail
          go_fit (HBk.out _)
          rintro e w2 ⟨rfl, hb2⟩
          obtain ⟨k1, k2, ⟨e0, e1, e2, e3, e4, e5⟩, kf, kl⟩ := HS.out w2 hb2
          have K1 := Lib.hid k1
          have K2 := Lib.hid k2
          rw [Nat.add_mul] at e0 e1 e2 e3 e4 e5
          have f0 := kf (a * 6 + i * 6)
          have f1 := kf (a * 6 + i * 6 + 1)
          have f2 := kf (a * 6 + i * 6 + 2)
          have f3 := kf (a * 6 + i * 6 + 3)
          have f4 := kf (a * 6 + i * 6 + 4)
          have f5 := kf (a * 6 + i * 6 + 5)
          clear k1 k2 kf hb2 HS HBk
          go_wp2
          go_roundw
          case rel =>
            have q1 := K1.out
            have q2 := K2.out
            unfold set6 at q1 q2
            rw [Nat.add_mul] at q1 q2
            exact ⟨x, rfl, hxn, by show blkL _ _ _ _; rw [HST.out]; exact q1, q2⟩
          case measure => simp [intOf]; have := HX.out; omega
      · rw [hb, if_neg (by decide)] at hst
        have HST := Lib.hid hst
        clear hst hb HS HBk
        rcases hw with ⟨d, h2, hn2, hd, h0⟩ | ⟨y, q, h0, hy, hq, h2⟩ | ⟨h2, h0⟩
        · have b2 : (c.2.1 == 2) = true := by simpa using h2
          have b5 : (c.2.1 == 0) = false := by rw [beq_eq_false_iff_ne]; omega
          have b3 : ((x : Int) == (n : Int)) = false := by rw [beq_eq_false_iff_ne]; omega
          obtain ⟨_, d1, _⟩ := HC2.out _ d hd
          have b4 : (d.2.1 != 0) = false := by simpa using h0
          have i5 : (x : Int) < (n : Int) := by omega
          clear h2 hn2 HC2 hd h0
          go_wp2
          go_roundw
          case rel => exact ⟨x, rfl, hxn, by show blkL _ _ _ _; rw [HST.out]; exact HB.out, HK.out⟩
          case measure => simp [intOf]; have := HX.out; omega
        · have b2 : (c.2.1 == 2) = false := by rw [beq_eq_false_iff_ne]; omega
          have b5 : (c.2.1 == 0) = true := by simpa using h0
          have b6 : ((i : Int) == 0) = false := by rw [beq_eq_false_iff_ne]; omega
          have hy1 : (i : Int) - 1 = (y : Int) := by omega
          obtain ⟨_, d1, _⟩ := HC2.out _ q hq
          have b7 : (q.2.1 != 2) = false := by simpa using h2
          have i6 : (1 : Int) ≤ (i : Int) := by omega
          have i7 : (y : Int) < (n : Int) := by omega
          clear h0 hy hq h2 HC2
          go_wp2
          go_roundw
          case rel => exact ⟨x, rfl, hxn, by show blkL _ _ _ _; rw [HST.out]; exact HB.out, HK.out⟩
          case measure => simp [intOf]; have := HX.out; omega
        · have b2 : (c.2.1 == 2) = false := by rw [beq_eq_false_iff_ne]; omega
          have b5 : (c.2.1 == 0) = false := by rw [beq_eq_false_iff_ne]; omega
          clear h2 h0 HC2
          go_wp2
          go_roundw
          case rel => exact ⟨x, rfl, hxn, by show blkL _ _ _ _; rw [HST.out]; exact HB.out, HK.out⟩
          case measure => simp [intOf]; have := HX.out; omega
    · obtain rfl : i = n := by omega
      go_wp2
      go_end0
      exact ⟨rfl, by rw [← HE.out]; exact HB.out, HK.out⟩
end Go.Proofs.YtdibpoecdjnpaaaDoor
