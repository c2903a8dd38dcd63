/-
  limnerref04: Runes, Place: what each call returns. Condition: a text of at most a million bytes.
-/
import Derived.Test.YtdkoonnimfildaaPlR
import Derived.Test.YtdkoonnimfildaaRefStarts
import Derived.Deep.DeepFit
namespace Go.Proofs.Ytdkoonnimfildaa
open Go.RowKit

set_option maxHeartbeats 1000000 in
theorem refRunes_any (s : ByteArray) (a : Int) (w : World) (hs : s.size ≤ 1000000) :
    Calls Try.prog 19 #[.string s, .int .i64 a] w fun e w' => e = .returned (.int .i64 (runesN s a.toNat : Nat)) ∧ Below w.heap.size w w' := by
  have H := Lib.hid (refStarts_any s w hs)
  have hl := stA_length s
  obtain ⟨R, hR⟩ : ∃ R, runesN s a.toNat = R := ⟨_, rfl⟩
  have HR : Hid (belowN (stA s) a.toNat = R) := hR
  rw [hR]
  clear hR
  have HT := Lib.hid (belowN_take (stA s) a.toNat)
  obtain ⟨l, hll⟩ : ∃ l, stA s = l := ⟨_, rfl⟩
  rw [hll] at H HR HT hl
  clear hll
  go_enter Try.func19, Try.ntmps19
  go_wp2_with fail
  go_fit H.out
  rintro e w1 ⟨v, rfl, hown, b1⟩
  obtain ⟨A, ca, rfl, hv⟩ := slice_of hown
  obtain ⟨n, hn⟩ : ∃ n, l.length = n := ⟨_, rfl⟩
  rw [hn] at hv hl
  have HV : Hid (n = 0 ∨ ∃ g, A = some ⟨g, 0, none⟩ ∧ ∀ k, k < n → w1.cell? ⟨g, k, none⟩ = some (.int .i64 ((l.getD k 0 : Nat) : Int))) := hv.imp id fun ⟨g, e, _, _, _, h⟩ => ⟨g, e, h⟩
  have HN := Lib.hid hn
  rw [hn]
  clear hown hv hn H
  go_wp2
  go_loopw [6, 7] (fun s6 s7 wr => ∃ i m : Nat, s7 = .int .i64 (i : Int) ∧ s6 = .int .i64 (m : Int) ∧ wr = w1 ∧ i ≤ n ∧ m ≤ i ∧ Hid (belowN (l.take i) a.toNat = m)) (fun _ s7 _ => n - (intOf s7).toNat)
  case atStart => exact ⟨0, 0, rfl, rfl, rfl, Nat.zero_le _, Nat.le_refl _, by show belowN (l.take 0) _ = 0; rw [List.take_zero]; rfl⟩
  case round =>
    obtain ⟨i, m, rfl, rfl, rfl, hi, hm, I⟩ := hrel
    by_cases hlt : i < n
    · obtain ⟨g, rfl, hc⟩ := HV.out.resolve_left (by omega)
      have hcell := hc i hlt
      have hst := HT.out i (l.getD i 0) (by
        have := HN.out
        rw [List.getD_eq_getElem?_getD, List.getElem?_eq_getElem (by omega)]; rfl)
      obtain ⟨x, hx⟩ : ∃ x, l.getD i 0 = x := ⟨_, rfl⟩
      rw [hx] at hcell hst
      rw [I.out] at hst
      clear I hc hx HV
      by_cases hp : (x : Int) < a
      · rw [if_pos (by omega)] at hst
        have E := Lib.hid hst
        clear hst
        go_wp2
        go_roundw
        case rel => exact ⟨i + 1, m + 1, by go_num, by go_num, trivial, by omega, by omega, E⟩
        case measure => simp [intOf]; omega
      · rw [if_neg (by omega)] at hst
        have E := Lib.hid hst
        clear hst
        go_wp2
        go_roundw
        case rel => exact ⟨i + 1, m, by go_num, rfl, trivial, by omega, by omega, E⟩
        case measure => simp [intOf]; omega
    · have E : Hid (R = m) := by
        have h1 := I.out
        have h2 := HN.out
        rw [List.take_of_length_le (by omega), HR.out] at h1
        exact h1
      clear I HV
      go_wp2
      go_ret
      exact ⟨by rw [E.out]; rfl, b1⟩

set_option maxHeartbeats 1000000 in
theorem refPlace_any (s : ByteArray) (r : Int) (w : World) (hs : s.size ≤ 1000000) :
    Calls Try.prog 21 #[.string s, .int .i64 r] w fun e w' => e = .returned (.int .i64 (placeN s r.toNat : Nat)) ∧ Below w.heap.size w w' := by
  have H := Lib.hid (refStarts_any s w hs)
  have hl := stA_length s
  obtain ⟨R, hR⟩ : ∃ R, placeN s r.toNat = R := ⟨_, rfl⟩
  have HR : Hid (((stA s) ++ [s.size]).getD (min r.toNat (stA s).length) 0 = R) := hR
  have H0 : Hid (r < 1 → R = 0) := fun h => by rw [← hR, show r.toNat = 0 by omega, place_zero]
  rw [hR]
  obtain ⟨l, hll⟩ : ∃ l, stA s = l := ⟨_, rfl⟩
  rw [hll] at H HR hl
  obtain ⟨i0, hi, hz0, hz1, hz2⟩ := info_parts Try.infoInt
  clear hR hll
  by_cases h1 : r < 1
  · obtain rfl := H0.out h1
    clear HR H0
    go_enter Try.func21, Try.ntmps21
    go_wp2_with fail
    go_fit H.out
    rintro e w1 ⟨v, rfl, hown, b1⟩
    have hsz := b1.size
    go_wp2_with (at_builtin; refine wpList_append_own _ rfl _ _ 30 rfl w.heap.size 3 i0 (.int .i64 0) 1 8 Try.underlying30 hi hz0 hz1 hz2 rfl (by decide) _ _ _ rfl (hown.alloc _) ⟨w1.heap.size, 0, none⟩ 1 1 [.int .i64 (s.size : Int)] rfl rfl (cell_one_new _ _ _) (fun x hx => by simp at hx; subst hx; rfl) (by unfold maxLen; omega) (by omega) (by simp; omega) ?_; intro v' w3 hown' hgrow3 hnil3; clear hnil3; have hbw3 : Below w.heap.size w w3 := Below.grown (b1.alloc hsz _) hgrow3 (by simp; omega) (fun j hj => (hown.lt _ hj).1); clear hgrow3)
    go_ret
    exact ⟨rfl, hbw3⟩
  · obtain ⟨k, rfl⟩ : ∃ k : Nat, r = (k : Int) := ⟨r.toNat, by omega⟩
    have hk : 1 ≤ (k : Int) := by omega
    rw [Int.toNat_natCast] at HR
    obtain ⟨n, hn⟩ : ∃ n, l.length = n := ⟨_, rfl⟩
    rw [hn] at HR hl H
    have HSL : Hid (∀ M, min k n = M → ∀ v (W : World), W.ownsRow w.heap.size 3 1 v (n + 1) (ints l ++ [.int .i64 (s.size : Int)]) → ∃ g ca, v = .slice (some ⟨g, 0, none⟩) (n + 1) ca ∧ n + 1 ≤ ca ∧ ca ≤ maxLen ∧ W.cell? ⟨g, M, none⟩ = some (.int .i64 (R : Int))) := by
      intro M hM v W h
      have hz : (l ++ [s.size]).length = n + 1 := by rw [List.length_append, hn]; rfl
      have h2 : W.ownsRow w.heap.size 3 1 v (l ++ [s.size]).length (ints (l ++ [s.size])) := by
        rw [hz]
        unfold ints
        rw [List.map_append]
        exact h
      obtain ⟨A, ca, rfl, hv⟩ := slice_of h2
      obtain ⟨g, rfl, _, h3, h4, hc⟩ := hv.resolve_left (by omega)
      rw [hz] at h3
      have := hc M (by omega)
      have hr := HR.out
      rw [hM] at hr
      rw [hr] at this
      exact ⟨g, ca, by rw [hz], h3, h4, this⟩
    have hlz : Hid (l.length = n) := hn
    clear HR H0 hn
    by_cases hkn : k ≤ n
    · have HS := Lib.hid (HSL.out k (by omega))
      clear HSL
      go_enter Try.func21, Try.ntmps21
      go_wp2_with fail
      go_fit H.out
      rintro e w1 ⟨v, rfl, hown, b1⟩
      have hsz := b1.size
      go_wp2_with (at_builtin; refine wpList_append_own _ rfl _ _ 30 rfl w.heap.size 3 i0 (.int .i64 0) 1 8 Try.underlying30 hi hz0 hz1 hz2 rfl (by decide) _ _ _ rfl (hown.alloc _) ⟨w1.heap.size, 0, none⟩ 1 1 [.int .i64 (s.size : Int)] rfl rfl (cell_one_new _ _ _) (fun x hx => by simp at hx; subst hx; rfl) (by unfold maxLen; omega) (by omega) (by simp; omega) ?_; intro v' w3 hown' hgrow3 hnil3; clear hnil3; have hbw3 : Below w.heap.size w w3 := Below.grown (b1.alloc hsz _) hgrow3 (by simp; omega) (fun j hj => (hown.lt _ hj).1); clear hgrow3; obtain ⟨g, ca, rfl, h3, h4, hcell⟩ := HS.out _ _ hown'; clear hown')
      go_ret
      exact ⟨rfl, hbw3⟩
    · have HS := Lib.hid (HSL.out n (by omega))
      clear HSL
      go_enter Try.func21, Try.ntmps21
      go_wp2_with fail
      go_fit H.out
      rintro e w1 ⟨v, rfl, hown, b1⟩
      have hsz := b1.size
      go_wp2_with (at_builtin; refine wpList_append_own _ rfl _ _ 30 rfl w.heap.size 3 i0 (.int .i64 0) 1 8 Try.underlying30 hi hz0 hz1 hz2 rfl (by decide) _ _ _ rfl (hown.alloc _) ⟨w1.heap.size, 0, none⟩ 1 1 [.int .i64 (s.size : Int)] rfl rfl (cell_one_new _ _ _) (fun x hx => by simp at hx; subst hx; rfl) (by unfold maxLen; omega) (by omega) (by simp; omega) ?_; intro v' w3 hown' hgrow3 hnil3; clear hnil3; have hbw3 : Below w.heap.size w w3 := Below.grown (b1.alloc hsz _) hgrow3 (by simp; omega) (fun j hj => (hown.lt _ hj).1); clear hgrow3; obtain ⟨g, ca, rfl, h3, h4, hcell⟩ := HS.out _ _ hown'; clear hown')
      go_ret
      exact ⟨rfl, hbw3⟩
end Go.Proofs.Ytdkoonnimfildaa
