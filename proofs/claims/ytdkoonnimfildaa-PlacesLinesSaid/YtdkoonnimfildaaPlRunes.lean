/-
  slices.BinarySearch over ints in order: how many are below a number; places: Runes, Place. Condition: a text of at most a million bytes.
-/
import Derived.Test.YtdkoonnimfildaaPlR
import Derived.Test.YtdkoonnimfildaaStarts
import Derived.Deep.DeepFit
namespace Go.Proofs.Ytdkoonnimfildaa
open Go.RowKit

theorem less_any (x y : Int) (w : World) : Calls Try.prog 36 #[.int .i64 x, .int .i64 y] w fun e w' => e = .returned (.bool (decide (x < y))) ∧ w' = w := by
  have H : Hid (∀ z : Int, Calls Try.prog 44 #[.int .i64 z] w fun e w' => e = .returned (.bool false) ∧ w' = w) := fun z => by
    go_enter Try.func44, Try.ntmps44
    go_wp2
    go_ret
    exact ⟨rfl, rfl⟩
  go_enter Try.func36, Try.ntmps36
  go_wp2_with fail
  go_fit (H.out x)
  rintro e w' ⟨rfl, rfl⟩
  go_wp2
  go_ret
  exact ⟨rfl, rfl⟩
theorem nan_any (z : Int) (w : World) : Calls Try.prog 37 #[.int .i64 z] w fun e w' => e = .returned (.bool false) ∧ w' = w := by
  go_enter Try.func37, Try.ntmps37
  go_wp2
  go_ret
  exact ⟨rfl, rfl⟩

theorem belowN_split (xs : List Nat) (m i : Nat) (hi : i ≤ xs.length) (h1 : ∀ t, t < i → xs.getD t 0 < m) (h2 : ∀ t, i ≤ t → t < xs.length → ¬ xs.getD t 0 < m) : belowN xs m = i := by
  have e : belowN xs m = belowN (xs.take i) m + belowN (xs.drop i) m := by
    unfold belowN
    rw [← List.countP_append, List.take_append_drop]
  have e1 : belowN (xs.take i) m = i := by
    rw [belowN_all, List.length_take, Nat.min_eq_left hi]
    intro x hx
    obtain ⟨t, ht, rfl⟩ := List.getElem_of_mem hx
    rw [List.length_take] at ht
    have := h1 t (by omega)
    rw [List.getD_eq_getElem?_getD, List.getElem?_eq_getElem (by omega)] at this
    rw [List.getElem_take]
    simpa using this
  have e2 : belowN (xs.drop i) m = 0 := by
    refine belowN_none _ _ fun x hx => ?_
    obtain ⟨t, ht, rfl⟩ := List.getElem_of_mem hx
    rw [List.length_drop] at ht
    have := h2 (i + t) (by omega) (by omega)
    rw [List.getD_eq_getElem?_getD, List.getElem?_eq_getElem (by omega)] at this
    rw [List.getElem_drop]
    simpa using this
  omega
theorem sorted_getD {xs : List Nat} (h : xs.Pairwise (· < ·)) (a b : Nat) (hab : a < b) (hb : b < xs.length) : xs.getD a 0 < xs.getD b 0 := by
  rw [List.getD_eq_getElem?_getD, List.getD_eq_getElem?_getD, List.getElem?_eq_getElem (by omega), List.getElem?_eq_getElem hb]
  exact List.pairwise_iff_getElem.1 h a b (by omega) hb hab

set_option maxHeartbeats 2000000 in
theorem search_any (A : Option Addr) (ca : Nat) (xs : List Nat) (z : Int) (w : World) (hn : xs.length ≤ 1000000) (hs : xs.Pairwise (· < ·))
    (hv : xs.length = 0 ∨ ∃ g, A = some ⟨g, 0, none⟩ ∧ ∀ k, k < xs.length → w.cell? ⟨g, k, none⟩ = some (.int .i64 ((xs.getD k 0 : Nat) : Int))) :
    Calls Try.prog 29 #[.slice A xs.length ca, .int .i64 z] w fun e w' => (∃ ok, e = .returned (.tuple #[.int .i64 (belowN xs z.toNat : Nat), .bool ok])) ∧ w' = w := by
  have HB := Lib.hid (belowN_split xs z.toNat)
  have HL : Hid (∀ x y w, Calls Try.prog 36 #[.int .i64 x, .int .i64 y] w fun e w' => e = .returned (.bool (decide (x < y))) ∧ w' = w) := less_any
  have HN : Hid (∀ x w, Calls Try.prog 37 #[.int .i64 x] w fun e w' => e = .returned (.bool false) ∧ w' = w) := nan_any
  have HS := Lib.hid (@sorted_getD xs hs)
  obtain ⟨F, hF⟩ : ∃ F, belowN xs z.toNat = F := ⟨_, rfl⟩
  rw [hF] at HB ⊢
  have HV := Lib.hid hv
  obtain ⟨n, hnn⟩ : ∃ n, xs.length = n := ⟨_, rfl⟩
  rw [hnn] at HB HV HS hn ⊢
  clear hF hv hs hnn
  go_enter Try.func29, Try.ntmps29
  go_wp2
  go_loopw [7, 8] (fun s7 s8 wr => ∃ lo hi : Nat, s7 = .int .i64 (lo : Int) ∧ s8 = .int .i64 (hi : Int) ∧ wr = w ∧ lo ≤ hi ∧ hi ≤ n ∧ Hid ((∀ t, t < lo → xs.getD t 0 < z.toNat) ∧ (∀ t, hi ≤ t → t < n → ¬ xs.getD t 0 < z.toNat))) (fun s7 s8 _ => (intOf s8).toNat - (intOf s7).toNat)
  case atStart => exact ⟨0, n, rfl, rfl, rfl, Nat.zero_le _, Nat.le_refl _, ⟨fun t ht => absurd ht (Nat.not_lt_zero _), fun t h1 h2 => by omega⟩⟩
  case round =>
    obtain ⟨lo, hi, rfl, rfl, rfl, hlh, hin, I⟩ := hrel
    by_cases hlt : lo < hi
    · obtain ⟨M, hM⟩ : ∃ M, (lo + hi) / 2 = M := ⟨_, rfl⟩
      have hMi : ((lo : Int) + (hi : Int)) / 2 = (M : Int) := by omega
      have hM1 : lo ≤ M := by omega
      have hM2 : M < hi := by omega
      obtain ⟨g, rfl, hc⟩ := HV.out.resolve_left (by omega)
      have hcell := hc M (by omega)
      obtain ⟨x, hx⟩ : ∃ x, xs.getD M 0 = x := ⟨_, rfl⟩
      rw [hx] at hcell
      by_cases hp : (x : Int) < z
      · have I2 : Hid ((∀ t, t < M + 1 → xs.getD t 0 < z.toNat) ∧ (∀ t, hi ≤ t → t < n → ¬ xs.getD t 0 < z.toNat)) := ⟨fun t ht => by
          by_cases e : t = M
          · subst e; omega
          · have := HS.out t M (by omega) (by omega)
            omega, I.out.2⟩
        have HC := HL.out (x : Int) z wr
        rw [decide_eq_true hp] at HC
        have HC2 := Lib.hid HC
        clear HC hc hx hM
        go_wp2_with (go_at_call 36; go_must (go_fit HC2.out); rintro e w' ⟨rfl, rfl⟩)
        go_roundw
        case rel => exact ⟨M + 1, hi, by go_num, rfl, trivial, by omega, hin, I2⟩
        case measure => simp [intOf]; omega
      · have I2 : Hid ((∀ t, t < lo → xs.getD t 0 < z.toNat) ∧ (∀ t, M ≤ t → t < n → ¬ xs.getD t 0 < z.toNat)) := ⟨I.out.1, fun t h1 h2 => by
          by_cases e : t = M
          · subst e; omega
          · have := HS.out M t (by omega) (by omega)
            omega⟩
        have HC := HL.out (x : Int) z wr
        rw [decide_eq_false hp] at HC
        have HC2 := Lib.hid HC
        clear HC hc hx hM
        go_wp2_with (go_at_call 36; go_must (go_fit HC2.out); rintro e w' ⟨rfl, rfl⟩)
        go_roundw
        case rel => exact ⟨lo, M, rfl, rfl, trivial, hM1, by omega, I2⟩
        case measure => simp [intOf]; omega
    · obtain rfl : hi = lo := by omega
      have HF := Lib.hid (HB.out hi hin I.out.1 I.out.2)
      by_cases hl2 : hi < n
      · obtain ⟨g, rfl, hc⟩ := HV.out.resolve_left (by omega)
        have hcell := hc hi hl2
        obtain ⟨x, hx⟩ : ∃ x, xs.getD hi 0 = x := ⟨_, rfl⟩
        rw [hx] at hcell
        have HC2 := Lib.hid (HN.out (x : Int) wr)
        clear I hc hx
        by_cases he : (x : Int) = z
        · have hb : ((x : Int) == z) = true := beq_iff_eq.2 he
          go_wp2
          go_ret2
          exact ⟨⟨_, by rw [HF.out]; rfl⟩, rfl⟩
        · have hb : ((x : Int) == z) = false := beq_false_of_ne he
          go_wp2_with (go_at_call 37; go_must (go_fit HC2.out); rintro e w' ⟨rfl, rfl⟩)
          go_ret2
          exact ⟨⟨_, by rw [HF.out]; rfl⟩, rfl⟩
      · clear I
        go_wp2
        go_ret2
        exact ⟨⟨_, by rw [HF.out]; rfl⟩, rfl⟩

theorem runes_any (s : ByteArray) (a : Int) (w : World) (hs : s.size ≤ 1000000) :
    Calls Try.prog 18 #[.string s, .int .i64 a] w fun e w' => e = .returned (.int .i64 (runesN s a.toNat : Nat)) ∧ Below w.heap.size w w' := by
  have H := Lib.hid (starts_any s w hs)
  have hl := stA_length s
  have HO := Lib.hid (stL_order s s.size 0)
  obtain ⟨R, hR⟩ : ∃ R, runesN s a.toNat = R := ⟨_, rfl⟩
  have HR : Hid (belowN (stA s) a.toNat = R) := hR
  rw [hR]
  clear hR
  go_enter Try.func18, Try.ntmps18
  go_wp2_with fail
  go_fit H.out
  rintro e w1 ⟨v, rfl, hown, b1⟩
  obtain ⟨A, ca, rfl, hv⟩ := slice_of hown
  have hS := search_any A ca (stA s) a w1 (by omega) HO.out (hv.imp id fun ⟨g, e, _, _, _, h⟩ => ⟨g, e, h⟩)
  rw [HR.out] at hS
  have HS := Lib.hid hS
  clear hS hv hown
  go_wp2_with fail
  go_fit HS.out
  rintro e w2 ⟨⟨ok, rfl⟩, rfl⟩
  go_wp2
  go_ret
  exact ⟨rfl, b1⟩
theorem place_any (s : ByteArray) (r : Int) (w : World) (hs : s.size ≤ 1000000) :
    Calls Try.prog 20 #[.string s, .int .i64 r] w fun e w' => e = .returned (.int .i64 (placeN s r.toNat : Nat)) ∧ Below w.heap.size w w' := by
  have H := Lib.hid (starts_any s w hs)
  have hl := stA_length s
  obtain ⟨R, hR⟩ : ∃ R, placeN s r.toNat = R := ⟨_, rfl⟩
  have H1 : Hid (r < 1 → R = 0) := fun h => by rw [← hR, show r.toNat = 0 by omega, place_zero]
  have H2 : Hid ((stA s).length ≤ r.toNat → R = s.size) := fun h => by rw [← hR, place_end s _ h]
  have H3 : Hid (r.toNat < (stA s).length → (stA s).getD r.toNat 0 = R) := fun h => by
    rw [← hR, place_at s r.toNat ((stA s).getD r.toNat 0) (by rw [List.getD_eq_getElem?_getD, List.getElem?_eq_getElem h]; rfl)]
  rw [hR]
  clear hR
  by_cases h1 : r < 1
  · obtain rfl := H1.out h1
    clear H1 H2 H3
    go_enter Try.func20, Try.ntmps20
    go_wp2_with fail
    go_fit H.out
    rintro e w1 ⟨v, rfl, hown, b1⟩
    clear hown
    go_wp2
    go_ret
    exact ⟨rfl, b1⟩
  · obtain ⟨k, rfl⟩ : ∃ k : Nat, r = (k : Int) := ⟨r.toNat, by omega⟩
    rw [Int.toNat_natCast] at H2 H3
    have hk : 1 ≤ (k : Int) := by omega
    by_cases h2 : (stA s).length ≤ k
    · obtain rfl := H2.out h2
      clear H1 H2 H3
      go_enter Try.func20, Try.ntmps20
      go_wp2_with fail
      go_fit H.out
      rintro e w1 ⟨v, rfl, hown, b1⟩
      obtain ⟨A, ca, rfl, hv⟩ := slice_of hown
      clear hown hv
      go_wp2
      go_ret
      exact ⟨rfl, b1⟩
    · have E := H3.out (by omega)
      clear H1 H2 H3
      go_enter Try.func20, Try.ntmps20
      go_wp2_with fail
      go_fit H.out
      rintro e w1 ⟨v, rfl, hown, b1⟩
      obtain ⟨A, ca, rfl, hv⟩ := slice_of hown
      obtain ⟨g, rfl, _, _, _, hc⟩ := hv.resolve_left (by omega)
      have hcell := hc k (by omega)
      rw [E] at hcell
      clear hown hc E
      go_wp2
      go_ret
      exact ⟨rfl, b1⟩
end Go.Proofs.Ytdkoonnimfildaa
