/-
  For every row of at most 30 texts of at most 50 bytes each: put together as lines, their line feeds left out, each line begins behind the line feed that ends the one ahead, ends where it should, and there are as many as there were texts; so the law returns true. More texts, none, or longer ones: the examples alone, as the law says. No condition.
-/
import Derived.Test.YtdkoonnimfildaaPlPut
import Derived.Test.YtdkoonnimfildaaPlRef
import Derived.Test.YtdkoonnimfildaaPlStrip
import Derived.Test.YtdkoonnimfildaaMath
import Derived.Test.YtdkoonnimfildaaStrsOpen
import Derived.Lib.Hide
namespace Go.Proofs.Ytdkoonnimfildaa
open Go.ChangeShapes Go.WideShapes Go.ChangeAt Go.RowKit
open Go.ChangeMaps (open_string shut_string)

theorem placesLines_far (v : Value) (xs : List ByteArray) (w : World) (hS : StrsW w v xs) (h : xs.length = 0 ∨ 30 < xs.length) :
    Calls Try.prog 6 #[v] w fun e w' => e = .returned (.bool true) ∧ Below w.heap.size w w' := by
  have HP := Lib.hid placed_any
  obtain ⟨ao, cap, rfl, hc, hs⟩ := hS
  obtain ⟨n, hn⟩ : ∃ n, xs.length = n := ⟨_, rfl⟩
  rw [hn] at h ⊢
  clear hc hs hn
  by_cases h0 : n = 0
  · subst h0
    go_enter Try.func6, Try.ntmps6
    go_wp2_with fail
    go_fit (HP.out _)
    rintro e w1 ⟨rfl, b1⟩
    go_wp2
    go_ret
    exact ⟨rfl, b1⟩
  · have h1 : 30 < n := by omega
    have h2 : ((n : Int) == 0) = false := beq_false_of_ne (by omega)
    clear h
    go_enter Try.func6, Try.ntmps6
    go_wp2_with fail
    go_fit (HP.out _)
    rintro e w1 ⟨rfl, b1⟩
    go_wp2
    go_ret
    exact ⟨rfl, b1⟩

set_option maxRecDepth 100000 in
set_option maxHeartbeats 4000000 in
theorem placesLines_near (v : Value) (xs : List ByteArray) (w : World) (hS : StrsW w v xs) (h0 : 0 < xs.length) (h1 : xs.length ≤ 30) :
    Calls Try.prog 6 #[v] w fun e w' => e = .returned (.bool true) ∧ Below w.heap.size w w' := by
  have HD := Lib.hid placed_any
  obtain ⟨ao, cap, rfl, hc, hs⟩ := hS
  have HCC : Hid (∀ W, Below w.heap.size w W → ∀ (i : Nat) x, xs[i]? = some x → ∃ g o, ao = some ⟨g, o, none⟩ ∧ W.cell? ⟨g, o + i, none⟩ = some (.string x)) := fun W hW i x hx => by
    obtain ⟨g, o, ha, hg⟩ := hs i x hx
    exact ⟨g, o, ha, by rw [hW.cell (p := ⟨g, o + i, none⟩) (cell_lt hg)]; exact hg⟩
  obtain ⟨ys, hys⟩ : ∃ ys, linesS xs = ys := ⟨_, rfl⟩
  have HYS := Lib.hid hys
  have hyl : ys.length = xs.length := by rw [← hys]; exact linesS_len xs
  have hpl : plainL ys := by rw [← hys]; exact linesS_plain xs
  have hat : ∀ (i : Nat) x, xs[i]? = some x → ys[i]? = some (stripL x.data.toList) := fun i x h => by rw [← hys]; exact linesS_at xs i x h
  have HF0 : Hid (∀ S : ByteArray, S.data.toList = joinL ys → S.size ≤ 1000000 → ∀ (i : Nat) x, xs[i]? = some x → ∀ W, Calls Try.prog 10 #[.string S, .int .i64 (i : Int)] W fun e w' => e = .returned (.int .i64 ((preL ys i).length : Nat)) ∧ Below W.heap.size W w') := fun S hS hz i x hx W => by
    have := first_any S (i : Int) W hz
    rwa [Int.toNat_natCast, hS, first_join ys hpl i _ (hat i x hx)] at this
  have HE0 : Hid (∀ S : ByteArray, S.data.toList = joinL ys → S.size ≤ 1000000 → ∀ (i : Nat) x, xs[i]? = some x → ∀ W, Calls Try.prog 16 #[.string S, .int .i64 ((preL ys i).length : Nat)] W fun e w' => e = .returned (.int .i64 (((preL ys i).length : Nat) + ((stripL x.data.toList).length : Nat))) ∧ Below W.heap.size W w') := fun S hS hz i x hx W => by
    have := end_any S ((preL ys i).length : Nat) W hz
    have hj := joinL_parts ys i _ (hat i x hx)
    have hl := len_bytes S
    rw [hS, hj, List.length_append] at hl
    rwa [show nearN S.size ((preL ys i).length : Nat) = (preL ys i).length by unfold nearN; omega, hS, end_join ys hpl i _ (hat i x hx), Int.natCast_add] at this
  have HA0 : Hid (∀ S : ByteArray, S.data.toList = joinL ys → S.size ≤ 1000000 → ∀ (i : Nat) x, xs[i]? = some x → x.size ≤ 50 → ∀ W, Calls Try.prog 12 #[.string S, .int .i64 (i : Int), .int .i64 60] W fun e w' => e = .returned (.int .i64 (((preL ys i).length : Nat) + ((stripL x.data.toList).length : Nat))) ∧ Below W.heap.size W w') := fun S hS hz i x hx h50 W => by
    have := at_any S (i : Int) 60 W hz
    have h2 := at_join ys hpl i 60 _ (hat i x hx) (by have := stripL_le x.data.toList; rw [len_bytes] at this; omega)
    have h3 : atI (joinL ys) (i : Int) 60 = atN (joinL ys) i 60 := by unfold atI atN; rw [Int.toNat_natCast]; rfl
    rwa [hS, h3, h2, Int.natCast_add] at this
  have HL0 : Hid (∀ S : ByteArray, S.data.toList = joinL ys → S.size ≤ 1000000 → ∃ c : Int, ∀ W, Calls Try.prog 8 #[.string S, .int .i64 (S.size : Int)] W fun e w' => e = .returned (.tuple #[.int .i64 ((xs.length : Int) - 1), .int .i64 c, .bool true]) ∧ Below W.heap.size W w') := fun S hS hz => by
    refine ⟨(S.size : Int) - (startF (joinL ys) S.size : Nat), fun W => ?_⟩
    have := line_in S S.size W hz (Nat.le_refl _)
    have hl := len_bytes S
    rw [hS] at hl
    have h2 := last_join ys hpl (by omega)
    rw [hl] at h2
    rw [hS, h2, hyl, show ((xs.length - 1 : Nat) : Int) = (xs.length : Int) - 1 by omega] at this
    exact this
  have HPL : Hid (∀ (i : Nat) x, xs[i]? = some x → (preL ys (i + 1)).length = (preL ys i).length + (stripL x.data.toList).length + 1) := fun i x hx => pre_len ys i _ (hat i x hx)
  have HZ : Hid (accL ys 0 = []) := accL_zero ys (by omega)
  have HGE : Hid (∀ i, i < xs.length → ∃ x, xs[i]? = some x) := fun i hi => ⟨_, List.getElem?_eq_getElem hi⟩
  obtain ⟨n, hnn⟩ : ∃ n, xs.length = n := ⟨_, rfl⟩
  rw [hnn] at h0 h1 hc hyl HL0 HGE ⊢
  have HYL := Lib.hid hyl
  have HNX := Lib.hid hnn
  have hne : ((n : Int) == 0) = false := beq_false_of_ne (by omega)
  clear hs hys hyl hpl hat hnn
  go_enter Try.func6, Try.ntmps6
  go_wp2
  go_loopw [3, 4, 5] (fun s3 s4 s5 wr => ∃ (S : ByteArray) (t a : Nat), s5 = .int .i64 (t : Int) ∧ s3 = .string S ∧ s4 = .int .i64 (a : Int) ∧ Below w.heap.size w wr ∧ t ≤ 2 ∧ S.size ≤ 1530 ∧ a ≤ 1530 ∧ Hid ((t ≤ 1 → a = 0) ∧ (t = 0 → S = ⟨#[]⟩) ∧ (1 ≤ t → S.data.toList = joinL ys ∧ ∀ (i : Nat) x, xs[i]? = some x → x.size ≤ 50))) (fun _ _ s5 _ => 2 - (intOf s5).toNat)
  case atStart => exact ⟨⟨#[]⟩, 0, 0, rfl, rfl, rfl, Below.refl _ _, by omega, by decide, by omega, fun _ => rfl, fun _ => rfl, fun h => by omega⟩
  case round =>
    obtain ⟨S, t, a, rfl, rfl, rfl, q, ht, hSz, haz, G⟩ := hrel
    by_cases ht0 : t = 0
    · subst ht0
      obtain rfl := G.out.1 (by omega)
      obtain rfl := G.out.2.1 rfl
      clear G hSz haz
      have HC := Lib.hid (HCC.out wr q)
      go_wp2
      go_loopw [3, 4, 6] (fun s3 s4 s6 wq => ∃ (S : ByteArray) (i : Nat), s3 = .string S ∧ s4 = .int .i64 0 ∧ s6 = .int .i64 (i : Int) ∧ wq = wr ∧ i ≤ n ∧ S.size ≤ 51 * i ∧ Hid (S.data.toList = accL ys i ∧ ∀ j, j < i → ∀ x, xs[j]? = some x → x.size ≤ 50)) (fun _ _ s6 _ => n - (intOf s6).toNat)
      case atStart => exact ⟨⟨#[]⟩, 0, rfl, rfl, rfl, rfl, Nat.zero_le _, Nat.le_refl _, HZ.out.symm, fun j hj => absurd hj (Nat.not_lt_zero _)⟩
      case round =>
        obtain ⟨S, i, rfl, rfl, rfl, rfl, hi, hSz, I⟩ := hrel
        by_cases hin : i < n
        · obtain ⟨x, hx⟩ := HGE.out i hin
          obtain ⟨g, o, rfl, hcell⟩ := HC.out i x hx
          have HX := Lib.hid hx
          clear hx
          by_cases hx50 : x.size ≤ 50
          · have hxl := len_bytes x
            go_wp2
            go_loopw [7, 8] (fun s7 s8 wz => ∃ (k : Nat) (O : ByteArray), s8 = .int .i64 (k : Int) ∧ s7 = .string O ∧ wz = wr ∧ k ≤ x.size ∧ O.size ≤ k ∧ Hid (O.data.toList = stripL (x.data.toList.take k))) (fun _ s8 _ => x.size - (intOf s8).toNat)
            case atStart => exact ⟨0, ⟨#[]⟩, rfl, rfl, rfl, Nat.zero_le _, Nat.le_refl _, by show [] = _; rw [List.take_zero]; rfl⟩
            case round =>
              obtain ⟨k, O, rfl, rfl, rfl, hk, hO, J⟩ := hrel
              by_cases hkx : k < x.size
              · have hst := stripL_step x.data.toList k (by omega)
                have hb := nl_asked2 x k hkx
                by_cases hn : nlAt x.data.toList k
                · rw [if_pos hn, List.append_nil] at hst
                  have E : Hid (O.data.toList = stripL (x.data.toList.take (k + 1))) := by show _ = _; rw [hst]; exact J.out
                  rw [decide_eq_true hn, Bool.not_true] at hb
                  clear J hst hn
                  go_wp2
                  go_roundw
                  case rel => exact ⟨k + 1, O, by go_num, rfl, trivial, by omega, by omega, E⟩
                  case measure => simp [intOf]; omega
                · rw [if_neg hn] at hst
                  have hz := ex_size x k (k + 1) (by omega)
                  have E : Hid ((O ++ x.extract k (k + 1)).data.toList = stripL (x.data.toList.take (k + 1))) := by
                    show _ = _
                    rw [hst, ← J.out, app_data, ex_one x k hkx]
                  have hOz := app_size O (x.extract k (k + 1))
                  rw [decide_eq_false hn, Bool.not_false] at hb
                  clear J hst hn
                  go_wp2
                  go_roundw
                  case rel => exact ⟨k + 1, _, by go_num, rfl, trivial, by omega, by omega, E⟩
                  case measure => simp [intOf]; omega
              · have JJ : Hid (O.data.toList = stripL x.data.toList) := by
                  have := J.out
                  rw [List.take_of_length_le (by omega)] at this
                  exact this
                have hO50 : O.size ≤ 50 := by omega
                clear J
                by_cases hi1 : i + 1 < n
                · have hi2 : (i : Int) < (n : Int) - 1 := by omega
                  have E : Hid ((S ++ O ++ ⟨#[10]⟩).data.toList = accL ys (i + 1) ∧ ∀ j, j < i + 1 → ∀ x, xs[j]? = some x → x.size ≤ 50) := by
                    refine ⟨?_, fun j hj y hy => ?_⟩
                    · have := accL_step ys i _ (linesS_at xs i x HX.out |> fun h => by rw [HYS.out] at h; exact h)
                      rw [HYL.out, if_pos hi1] at this
                      rw [app_data, app_data, I.out.1, JJ.out]
                      exact this
                    · by_cases e : j = i
                      · subst e
                        have := HX.out.symm.trans hy
                        cases this
                        exact hx50
                      · exact I.out.2 j (by omega) y hy
                  have z1 := app_size S O
                  have z2 := app_size (S ++ O) ⟨#[10]⟩
                  rw [show (ByteArray.mk #[10]).size = 1 from rfl] at z2
                  clear I JJ
                  go_wp2
                  go_roundw
                  case rel => exact ⟨_, i + 1, rfl, rfl, by go_num, trivial, by omega, by omega, E⟩
                  case measure => simp [intOf]; omega
                · have hi2 : ¬ (i : Int) < (n : Int) - 1 := by omega
                  have E : Hid ((S ++ O).data.toList = accL ys (i + 1) ∧ ∀ j, j < i + 1 → ∀ x, xs[j]? = some x → x.size ≤ 50) := by
                    refine ⟨?_, fun j hj y hy => ?_⟩
                    · have := accL_step ys i _ (linesS_at xs i x HX.out |> fun h => by rw [HYS.out] at h; exact h)
                      rw [HYL.out, if_neg hi1, List.append_nil] at this
                      rw [app_data, I.out.1, JJ.out]
                      exact this
                    · by_cases e : j = i
                      · subst e
                        have := HX.out.symm.trans hy
                        cases this
                        exact hx50
                      · exact I.out.2 j (by omega) y hy
                  have z1 := app_size S O
                  clear I JJ
                  go_wp2
                  go_roundw
                  case rel => exact ⟨_, i + 1, rfl, rfl, by go_num, trivial, by omega, by omega, E⟩
                  case measure => simp [intOf]; omega
          · clear I
            go_wp2_with fail
            go_fit (HD.out _)
            rintro e w2 ⟨rfl, b2⟩
            have q := q.trans (b2.mono q.size)
            go_wp2
            go_ret
            exact ⟨rfl, q⟩
        · obtain rfl : i = n := by omega
          have E : Hid ((1 ≤ 1 → 0 = 0) ∧ (1 = 0 → S = ⟨#[]⟩) ∧ (1 ≤ 1 → S.data.toList = joinL ys ∧ ∀ (j : Nat) x, xs[j]? = some x → x.size ≤ 50)) := by
            refine ⟨fun _ => rfl, fun h => by omega, fun _ => ⟨?_, fun j x hx => I.out.2 j (by have := (List.getElem?_eq_some_iff.1 hx).1; have := HNX.out; omega) x hx⟩⟩
            have := I.out.1
            unfold accL at this
            rwa [if_neg (by rw [HYL.out]; omega)] at this
          clear I
          go_wp2
          go_roundw
          case rel => exact ⟨S, 1, 0, rfl, rfl, rfl, q, by omega, by omega, by omega, fun h => E.out.1 (by omega), fun h => by omega, fun h => E.out.2.2 (by omega)⟩
          case measure => simp [intOf]
    · have hjd := (G.out.2.2 (by omega)).1
      have h50 := Lib.hid (G.out.2.2 (by omega)).2
      have HF := Lib.hid (HF0.out S hjd (by omega))
      have HE := Lib.hid (HE0.out S hjd (by omega))
      have HA := Lib.hid (HA0.out S hjd (by omega))
      have HLn := Lib.hid (HL0.out S hjd (by omega))
      have HJD := Lib.hid hjd
      clear hjd HF0 HE0 HA0 HL0
      by_cases ht1 : t = 1
      · obtain rfl := G.out.1 (by omega)
        have HT := Lib.hid ht1
        have t1 : (t : Int) < 2 := by omega
        have t2 : ((t : Int) == 0) = false := beq_false_of_ne (by omega)
        have t3 : ¬ (t : Int) = 0 := by omega
        clear G HLn haz ht0 ht1
        go_wp2
        go_loopw [3, 4, 6] (fun s3 s4 s6 wq => ∃ (i p : Nat), s3 = .string S ∧ s4 = .int .i64 (p : Int) ∧ s6 = .int .i64 (i : Int) ∧ Below w.heap.size w wq ∧ i ≤ n ∧ p ≤ 51 * i ∧ Hid (p = (preL ys i).length)) (fun _ _ s6 _ => n - (intOf s6).toNat)
        case atStart => exact ⟨0, 0, rfl, rfl, rfl, q, Nat.zero_le _, Nat.le_refl _, by show 0 = _; rw [preL_zero]; rfl⟩
        case round =>
          clear q
          obtain ⟨i, p, rfl, rfl, rfl, q, hi, hp51, I⟩ := hrel
          by_cases hin : i < n
          · obtain ⟨x, hx⟩ := HGE.out i hin
            obtain ⟨g, o, rfl, hcell⟩ := HCC.out _ q i x hx
            have hx50 := h50.out i x hx
            have HX := Lib.hid hx
            clear hx
            have hxl := len_bytes x
            go_wp2
            go_loopw [7, 8] (fun s7 s8 wz => ∃ (k : Nat) (O : ByteArray), s8 = .int .i64 (k : Int) ∧ s7 = .string O ∧ wz = wr ∧ k ≤ x.size ∧ O.size ≤ k ∧ Hid (O.data.toList = stripL (x.data.toList.take k))) (fun _ s8 _ => x.size - (intOf s8).toNat)
            case atStart => exact ⟨0, ⟨#[]⟩, rfl, rfl, rfl, Nat.zero_le _, Nat.le_refl _, by show [] = _; rw [List.take_zero]; rfl⟩
            case round =>
              obtain ⟨k, O, rfl, rfl, rfl, hk, hO, J⟩ := hrel
              by_cases hkx : k < x.size
              · have hst := stripL_step x.data.toList k (by omega)
                have hb := nl_asked2 x k hkx
                by_cases hn : nlAt x.data.toList k
                · rw [if_pos hn, List.append_nil] at hst
                  have E : Hid (O.data.toList = stripL (x.data.toList.take (k + 1))) := by show _ = _; rw [hst]; exact J.out
                  rw [decide_eq_true hn, Bool.not_true] at hb
                  clear J hst hn
                  go_wp2
                  go_roundw
                  case rel => exact ⟨k + 1, O, by go_num, rfl, trivial, by omega, by omega, E⟩
                  case measure => simp [intOf]; omega
                · rw [if_neg hn] at hst
                  have hz := ex_size x k (k + 1) (by omega)
                  have E : Hid ((O ++ x.extract k (k + 1)).data.toList = stripL (x.data.toList.take (k + 1))) := by
                    show _ = _
                    rw [hst, ← J.out, app_data, ex_one x k hkx]
                  have hOz := app_size O (x.extract k (k + 1))
                  rw [decide_eq_false hn, Bool.not_false] at hb
                  clear J hst hn
                  go_wp2
                  go_roundw
                  case rel => exact ⟨k + 1, _, by go_num, rfl, trivial, by omega, by omega, E⟩
                  case measure => simp [intOf]; omega
              · have JJ : Hid (O.data.toList = stripL x.data.toList) := by
                  have := J.out
                  rw [List.take_of_length_le (by omega)] at this
                  exact this
                have hO50 : O.size ≤ 50 := by omega
                clear J
                have hpl := HPL.out i x HX.out
                have hOl : O.size = (stripL x.data.toList).length := by rw [← len_bytes, JJ.out]
                have hp := I.out
                have q1 := HF.out i x HX.out
                have q2 := HE.out i x HX.out
                have q3 := HA.out i x HX.out hx50
                rw [← hp] at q1 q2 hpl
                rw [← hp, ← hOl] at q3
                rw [← hOl] at q2 hpl
                have Q1 := Lib.hid q1
                have Q2 := Lib.hid q2
                have Q3 := Lib.hid q3
                have E : Hid (p + O.size + 1 = (preL ys (i + 1)).length) := hpl.symm
                clear q1 q2 q3 hpl hOl hp I JJ
                go_wp2_with fail
                go_fit (Q1.out _)
                rintro e w2 ⟨rfl, b2⟩
                have q := q.trans (b2.mono q.size)
                clear b2
                go_wp2_with fail
                go_fit (Q2.out _)
                rintro e w2 ⟨rfl, b2⟩
                have q := q.trans (b2.mono q.size)
                clear b2
                go_wp2_with fail
                go_fit (Q3.out _)
                rintro e w2 ⟨rfl, b2⟩
                have q := q.trans (b2.mono q.size)
                clear b2
                go_wp2
                go_roundw
                case rel => exact ⟨i + 1, p + O.size + 1, rfl, by go_num, by go_num, q, by omega, by omega, E⟩
                case measure => simp [intOf]; omega
          · obtain rfl : i = n := by omega
            have E : Hid ((2 ≤ 1 → p = 0) ∧ (2 = 0 → S = ⟨#[]⟩) ∧ (1 ≤ 2 → S.data.toList = joinL ys ∧ ∀ (j : Nat) x, xs[j]? = some x → x.size ≤ 50)) :=
              ⟨fun h => by omega, fun h => by omega, fun _ => ⟨HJD.out, h50.out⟩⟩
            clear I
            go_wp2
            go_roundw
            case rel => exact ⟨S, t + 1, p, by go_num, rfl, rfl, q, by have := HT.out; omega, by omega, by omega, fun h => by have := HT.out; omega, fun h => by omega, fun h => E.out.2.2 (by omega)⟩
            case measure => simp [intOf]; omega
      · obtain rfl : t = 2 := by omega
        obtain ⟨c, hLn⟩ := HLn.out
        have HL := Lib.hid hLn
        clear hLn HLn G
        go_wp2_with fail
        go_fit (HL.out _)
        rintro e w2 ⟨rfl, b2⟩
        have q := q.trans (b2.mono q.size)
        clear b2
        go_wp2_with fail
        go_fit (HD.out _)
        rintro e w2 ⟨rfl, b2⟩
        have q := q.trans (b2.mono q.size)
        clear b2
        go_wp2
        go_ret
        exact ⟨rfl, q⟩
theorem placesLines_any (v : Value) (xs : List ByteArray) (w : World) (hS : StrsW w v xs) :
    Calls Try.prog 6 #[v] w fun e w' => e = .returned (.bool true) ∧ Below w.heap.size w w' := by
  by_cases h : 0 < xs.length ∧ xs.length ≤ 30
  · exact placesLines_near v xs w hS h.1 h.2
  · exact placesLines_far v xs w hS (by omega)
-- FRAME
theorem placesLines_own : ownKnob Try.prog.godebug = none := by kernel_rfl

set_option maxRecDepth 100000 in
theorem placesLines_lifted (os : Os) (started : os.Started) (H : Type) (enc : TypeId × Value → H) :
    ReturnsInHanded {} Try.checked os 6 .any (Rows.placesLinesSpec.pre6 enc Try.prog Try.f6 Rows.placesLinesRow.domain false) (Rows.placesLinesSpec.post enc Try.prog Try.f6 false true false false) := by
  refine returnsInHanded_of_change (C := Try.checked) placesLines_own started (by kernel_rfl) Try.func6
    (ChangeSpec.witness6 (enc := enc) (C := Try.checked) false ⟨#[], #[.slice none 0 0], []⟩ 8 (by kernel_rfl) (by kernel_rfl) (by kernel_rfl) (by kernel_rfl)) ?_
  intro W base args ds gs before hval0 hW hcnd _
  have hval : ∀ (j : Nat) t v, Try.f6.params[j]? = some t → args[j]? = some v → Value.okWide Try.prog W .any base t v := hval0
  have hW' := hW
  obtain ⟨p, q, hA0, hV, rfl, hfz, hnd⟩ := hW
  have hA : DataW.TrodAll enc Try.prog W 0 (fun _ => true) true Try.f6.params.toList args.toList ds p := hA0
  rw [Try.params6] at hA hval
  obtain ⟨v0, d0, rfl, rfl, h0⟩ := trodAll_one hA
  obtain ⟨rfl, rfl⟩ := trodVars_none hV
  have k0 := h0
  obtain ⟨x0, hS0⟩ := open_strsW (hval 0 33 v0 rfl rfl) h0
  clear hA0 hval0
  simp only [List.append_nil] at hW'
  have hlt : ∀ x ∈ p, x.block < W.heap.size := fun x hx => hW'.lt x (by simp [hx])
  refine (placesLines_any v0 x0 W hS0).mono fun e W' ⟨he, hw⟩ => ?_
  subst he
  exact ⟨_, rfl, _, _, _, [], p, [], hW', trodAll_mk1 (shut_bool Try.underlying4 _), trodAll_mk1 (Below.trod Try.laidOut (by kernel_rfl) (of_decide_eq_true (by kernel_rfl)) k0 hw (fun x hx => hlt x (by simp [hx]))), rfl, hw.frame _, fun h => by cases h⟩

theorem placesLines_holds : Rows.PlacesLinesSaid :=
  OpenClaim.holds_of_wide 6 Try.f6 rfl rfl rfl rfl rfl rfl rfl ⟨rfl, rfl, rfl, rfl, rfl⟩ rfl rfl rfl rfl rfl (by kernel_rfl) Try.func6 (by kernel_rfl)
    (of_decide_eq_true (by kernel_rfl)) (by unfold Func.isWrapper; first | (rw [if_pos (by decide +kernel)]; kernel_rfl) | (rw [if_neg (by decide +kernel)]; exact ⟨rfl, rfl⟩))
    (fun os started H enc _ => placesLines_lifted os started H enc)
end Go.Proofs.Ytdkoonnimfildaa
