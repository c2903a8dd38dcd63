/-
  keys.cleaned: what it returns: for every text.
-/
import Derived.Lib.OthersKept
import Derived.Test.YtdnldfgolbcjiaaDoorBe13
import Derived.Test.YtdnldfgolbcjiaaDoorBe22
import Derived.Test.YtdnldfgolbcjiaaDoorBe1
import Derived.Test.YtdnldfgolbcjiaaDoorBe24
import Derived.Test.YtdnldfgolbcjiaaDoorBe6
namespace Go.Proofs.YtdnldfgolbcjiaaDoor
open Go.RowKit

theorem clean1_size (s : ByteArray) (p : Nat) (h : p < s.size) : (clean1 s p).size ≤ (Utf8.decode s p).2 := by
  have hw := decW s p h
  unfold clean1
  repeat' split
  · rw [one_size]; exact hw.1
  · rw [ByteArray.size_extract]; omega
  · exact Nat.zero_le _
theorem cleanL_snoc (s : ByteArray) (l : List Nat) (p : Nat) : cleanL s (l ++ [p]) = cleanL s l ++ clean1 s p := by unfold cleanL; rw [List.foldl_append]; rfl
theorem cleanL_step (s : ByteArray) (j : Nat) (h : j < (stA s).length) : cleanL s ((stA s).take (j + 1)) = cleanL s ((stA s).take j) ++ clean1 s (posN s j) := by
  rw [List.take_succ_eq_append_getElem h, cleanL_snoc, ← stA_getD s j h]
  congr 2
  rw [List.getD, List.getElem?_eq_getElem h]; rfl
theorem cleanL_size (s : ByteArray) : ∀ j, j ≤ (stA s).length → (cleanL s ((stA s).take j)).size ≤ posN s j
  | 0, _ => Nat.zero_le _
  | j + 1, h => by
    have hp := (posN_lt s j).1 (by omega)
    have := cleanL_size s j (by omega)
    have h1 := clean1_size s (posN s j) hp
    rw [cleanL_step s j (by omega), app_size, posN_succ s j hp]
    omega
theorem builder_below {T e : TypeId} {B b : Nat} {bs : List Value} {w w' : World} (h : Lib.IsBuilderF T e B b bs w) (hb : Below w.heap.size w w') : Lib.IsBuilderF T e B b bs w' := by
  have key : ∀ p, Lib.BuilderAtF T e B b p bs w → Lib.BuilderAtF T e B b p bs w' := by
    rintro p ⟨hB, v, hbk, ⟨hl, hr⟩, hne⟩
    refine ⟨hB, v, (hb.block b (Array.getElem?_eq_some_iff.1 hbk).1).trans hbk, ⟨hl, ?_⟩, hne⟩
    rcases hr with h0 | ⟨g, cap, cur, fz, h1, h2, h3, h4⟩
    · exact .inl h0
    · exact .inr ⟨g, cap, cur, fz, h1, h2, (hb.block g (Array.getElem?_eq_some_iff.1 h3).1).trans h3, h4⟩
  exact h.elim (fun x => .inl (key _ x)) (fun x => .inr (key _ x))

abbrev BuiW (b : Nat) (L : List UInt8) (w : World) : Prop := Lib.IsBuilderF 81 5 b b (Lib.byteCells L) w
set_option maxRecDepth 100000 in
set_option maxHeartbeats 4000000 in
theorem clean_any (s : ByteArray) (w : World) (hs : s.size ≤ 100000) (hT : TabW w) :
    Calls Tryd.prog 42 #[.string s] w fun e w' => e = .returned (.string (cleanB s)) ∧ Below w.heap.size w w' := by
  have hbA : Below w.heap.size w (w.alloc (.cells #[.pointer none, .slice none 0 0] 81)) := (Below.refl _ _).alloc (Nat.le_refl _) _
  have hI0 : BuiW w.heap.size [] (w.alloc (.cells #[.pointer none, .slice none 0 0] 81)) := Lib.IsBuilderF.of (Lib.fresh_isBuilder _ _ w)
  have H0 : Hid (Below w.heap.size w (w.alloc (.cells #[.pointer none, .slice none 0 0] 81)) ∧ BuiW w.heap.size (cleanL s ((stA s).take 0)).data.toList (w.alloc (.cells #[.pointer none, .slice none 0 0] 81))) := ⟨hbA, hI0⟩
  have HT := Lib.hid (fun W (h : Below w.heap.size w W) => hT.below h)
  have HNX := Lib.hid (fun (p : Nat) W (h : p < s.size) => next_in s p W (by omega) (by omega) (by unfold maxLen; omega))
  have HOF := Lib.hid (fun (r : Nat) W (h : TabW W) => of_any (r : Int) W h)
  clear hbA hI0 hT
  go_enter Tryd.func42, Tryd.ntmps42
  go_wp2
  go_loopw [4] (fun s4 wr => ∃ j p : Nat, s4 = .int .i64 (p : Int) ∧ p ≤ s.size ∧ Hid (j ≤ (stA s).length ∧ posN s j = p) ∧ Hid (Below w.heap.size w wr ∧ BuiW w.heap.size (cleanL s ((stA s).take j)).data.toList wr)) (fun s4 _ => s.size - (intOf s4).toNat)
  case atStart => exact ⟨0, 0, rfl, Nat.zero_le _, ⟨Nat.zero_le _, rfl⟩, H0⟩
  case round =>
    obtain ⟨j, p, rfl, hp, HJ, HI⟩ := hrel
    clear H0
    by_cases hlt : p < s.size
    · have j1 : (p : Int) < (s.size : Int) := by omega
--LOOP
      obtain ⟨q1, q2⟩ := HJ.out
      have hjl : j < (stA s).length := (posN_lt s j).2 (by omega)
      have hst := cleanL_step s j hjl
      have hps := posN_succ s j (by omega)
      have hLs := cleanL_size s j q1
      rw [q2] at hst hps hLs
      obtain ⟨hw1, hw2⟩ := decW s p hlt
      have HCL : Hid (clean1 s p = if (Utf8.decode s p).1 = 13 then oneS 10 else if okAt s p = true ∧ ((Utf8.decode s p).1 = 10 ∨ (Utf8.decode s p).1 = 9 ∨ 0 < ofN ((Utf8.decode s p).1 : Int)) then s.extract p (p + (Utf8.decode s p).2) else noB) := rfl
      have hN := HNX.out p
      have hok0 : okAt s p = false → (Utf8.decode s p).1 = 65533 := fun h => by
        unfold okAt at h
        have h2 : ((Utf8.decode s p).1 = 65533 ∧ (Utf8.decode s p).2 = 1) := by simpa using h
        exact h2.1
      rw [Int.toNat_natCast] at hN
      obtain ⟨R, hR⟩ : ∃ R, (Utf8.decode s p).1 = R := ⟨_, rfl⟩
      obtain ⟨K, hK⟩ : ∃ K, (Utf8.decode s p).2 = K := ⟨_, rfl⟩
      obtain ⟨OK, hOK⟩ : ∃ OK, okAt s p = OK := ⟨_, rfl⟩
      rw [hR, hK, hOK] at hN HCL
      rw [hR, hOK] at hok0
      rw [hK] at hps hw1 hw2
      obtain ⟨L, hL⟩ : ∃ L, (cleanL s ((stA s).take j)).data.toList = L := ⟨_, rfl⟩
      have hLl : L.length ≤ 100000 := by
        have : L.length = (cleanL s ((stA s).take j)).size := by rw [← hL]; rfl
        omega
      rw [hL] at HI
      have hst2 : (cleanL s ((stA s).take (j + 1))).data.toList = L ++ (clean1 s p).data.toList := by rw [hst, app_data, hL]
      obtain ⟨C, hC⟩ : ∃ C, clean1 s p = C := ⟨_, rfl⟩
      rw [hC] at hst2 HCL
      obtain ⟨x, hx⟩ : ∃ x, p + K = x := ⟨_, rfl⟩
      have hx1 : (p : Int) + (K : Int) = (x : Int) := by omega
      have hxs : x ≤ s.size := by omega
      have HX : Hid (p < x ∧ j + 1 ≤ (stA s).length ∧ posN s (j + 1) = x) := ⟨by omega, by omega, by omega⟩
      have hex : (s.extract p x).size ≤ s.size := by rw [ByteArray.size_extract]; omega
      have HST := Lib.hid hst2
      have HN := Lib.hid (hN wr hlt)
      have HSZ := Lib.hid HI.out.1.size
      have HWB : Hid (∀ W, BuiW w.heap.size L W → w.heap.size ≤ W.heap.size → Calls Tryd.prog 54 #[.pointer (some ⟨w.heap.size, 0, none⟩), .int .u8 10] W fun e w' => e = .returned .nilIface ∧ (Lib.BuilderAtF 81 5 w.heap.size w.heap.size (.pointer (some ⟨w.heap.size, 0, none⟩)) (Lib.byteCells L ++ [.int .u8 10]) w' ∧ Below w.heap.size W w' ∧ Lib.OthersKept 5 (some w.heap.size) W w')) := fun W hI hz =>
        Tryd.Builder_WriteByte_k w.heap.size w.heap.size (Lib.byteCells L) 10 W hI (by rw [Lib.byteCells_length]; omega) hz
      have HWS : Hid (∀ W, BuiW w.heap.size L W → w.heap.size ≤ W.heap.size → Calls Tryd.prog 56 #[.pointer (some ⟨w.heap.size, 0, none⟩), .string (s.extract p x)] W fun e w' => e = .returned (.tuple #[.int .i64 (s.extract p x).size, .nilIface]) ∧ (Lib.BuilderAtF 81 5 w.heap.size w.heap.size (.pointer (some ⟨w.heap.size, 0, none⟩)) (Lib.byteCells L ++ Lib.strCells (s.extract p x)) w' ∧ Below w.heap.size W w')) := fun W hI hz =>
        Tryd.Builder_WriteString_f w.heap.size w.heap.size (Lib.byteCells L) (s.extract p x) W hI (by rw [Lib.byteCells_length]; omega) hz
      rw [hx] at HCL
      clear q1 q2 hjl hst hps hLs hw1 hw2 hN hR hK hOK hL hLl hst2 hC HNX HJ hx
      have HFin : Hid (∀ w6, Below w.heap.size wr w6 → BuiW w.heap.size (L ++ C.data.toList) w6 → Hid (Below w.heap.size w w6 ∧ BuiW w.heap.size (cleanL s ((stA s).take (j + 1))).data.toList w6)) := fun w6 h1 h2 => ⟨HI.out.1.trans h1, by rw [HST.out]; exact h2⟩
      by_cases e13 : R = 13
      · have HC : Hid (C = oneS 10) := by show C = _; rw [HCL.out, if_pos e13]
        subst e13
        go_wp2_with fail
        go_fit HN.out
        rintro e w3 ⟨rfl, hb3⟩
        have HB3 : Hid (BuiW w.heap.size L w3 ∧ Below w.heap.size wr w3 ∧ w.heap.size ≤ w3.heap.size ∧ TabW w3) := ⟨builder_below HI.out.2 hb3, hb3.mono HSZ.out, Nat.le_trans HSZ.out hb3.size, HT.out _ (HI.out.1.trans (hb3.mono HSZ.out))⟩
        clear hb3
        go_wp2_with fail
        go_fit (HWB.out _ HB3.out.1 HB3.out.2.2.1)
        rintro e w6 ⟨rfl, hB6, hb6, _⟩
        have H6 := HFin.out w6 (HB3.out.2.1.trans hb6) (by rw [HC.out]; show Lib.IsBuilderF _ _ _ _ (Lib.byteCells (L ++ [10])) _; rw [Lib.byteCells_append]; exact .inr hB6)
        clear hB6 hb6
        go_wp2
        go_roundw
        case rel => exact ⟨j + 1, x, rfl, hxs, HX.out.2, H6⟩
        case measure => simp [intOf]; have := HX.out.1; omega
      have i13 : ((R : Int) == 13) = false := u8_no e13
      rw [if_neg e13] at HCL
      cases OK with
      | false =>
        have HC : Hid (C = noB) := by show C = _; rw [HCL.out]; rfl
        go_wp2_with fail
        go_fit HN.out
        rintro e w3 ⟨rfl, hb3⟩
        have HB3 : Hid (BuiW w.heap.size L w3 ∧ Below w.heap.size wr w3 ∧ w.heap.size ≤ w3.heap.size ∧ TabW w3) := ⟨builder_below HI.out.2 hb3, hb3.mono HSZ.out, Nat.le_trans HSZ.out hb3.size, HT.out _ (HI.out.1.trans (hb3.mono HSZ.out))⟩
        clear hb3
        have H6 := HFin.out w3 HB3.out.2.1 (by rw [HC.out]; show Lib.IsBuilderF _ _ _ _ (Lib.byteCells (L ++ [])) _; rw [List.append_nil]; exact HB3.out.1)
        go_wp2
        go_roundw
        case rel => exact ⟨j + 1, x, rfl, hxs, HX.out.2, H6⟩
        case measure => simp [intOf]; have := HX.out.1; omega
      | true =>
        by_cases e10 : R = 10
        · have HC : Hid (C = s.extract p x) := by show C = _; rw [HCL.out, if_pos ⟨rfl, .inl e10⟩]
          subst e10
          go_wp2_with fail
          go_fit HN.out
          rintro e w3 ⟨rfl, hb3⟩
          have HB3 : Hid (BuiW w.heap.size L w3 ∧ Below w.heap.size wr w3 ∧ w.heap.size ≤ w3.heap.size ∧ TabW w3) := ⟨builder_below HI.out.2 hb3, hb3.mono HSZ.out, Nat.le_trans HSZ.out hb3.size, HT.out _ (HI.out.1.trans (hb3.mono HSZ.out))⟩
          clear hb3
          go_wp2_with fail
          go_fit (HWS.out _ HB3.out.1 HB3.out.2.2.1)
          rintro e w6 ⟨rfl, hB6, hb6⟩
          have H6 := HFin.out w6 (HB3.out.2.1.trans hb6) (by rw [HC.out]; show Lib.IsBuilderF _ _ _ _ (Lib.byteCells (L ++ (s.extract p x).data.toList)) _; rw [Lib.byteCells_append]; exact .inr hB6)
          clear hB6 hb6
          go_wp2
          go_roundw
          case rel => exact ⟨j + 1, x, rfl, hxs, HX.out.2, H6⟩
          case measure => simp [intOf]; have := HX.out.1; omega
        have i10 : ((R : Int) == 10) = false := u8_no e10
        by_cases e9 : R = 9
        · have HC : Hid (C = s.extract p x) := by show C = _; rw [HCL.out, if_pos ⟨rfl, .inr (.inl e9)⟩]
          subst e9
          go_wp2_with fail
          go_fit HN.out
          rintro e w3 ⟨rfl, hb3⟩
          have HB3 : Hid (BuiW w.heap.size L w3 ∧ Below w.heap.size wr w3 ∧ w.heap.size ≤ w3.heap.size ∧ TabW w3) := ⟨builder_below HI.out.2 hb3, hb3.mono HSZ.out, Nat.le_trans HSZ.out hb3.size, HT.out _ (HI.out.1.trans (hb3.mono HSZ.out))⟩
          clear hb3
          go_wp2_with fail
          go_fit (HWS.out _ HB3.out.1 HB3.out.2.2.1)
          rintro e w6 ⟨rfl, hB6, hb6⟩
          have H6 := HFin.out w6 (HB3.out.2.1.trans hb6) (by rw [HC.out]; show Lib.IsBuilderF _ _ _ _ (Lib.byteCells (L ++ (s.extract p x).data.toList)) _; rw [Lib.byteCells_append]; exact .inr hB6)
          clear hB6 hb6
          go_wp2
          go_roundw
          case rel => exact ⟨j + 1, x, rfl, hxs, HX.out.2, H6⟩
          case measure => simp [intOf]; have := HX.out.1; omega
        have i9 : ((R : Int) == 9) = false := u8_no e9
        have HOR := Lib.hid (HOF.out R)
        by_cases eo : 0 < ofN (R : Int)
        · have HC : Hid (C = s.extract p x) := by show C = _; rw [HCL.out, if_pos ⟨rfl, .inr (.inr eo)⟩]
          obtain ⟨o, ho⟩ : ∃ o, ofN (R : Int) = o := ⟨_, rfl⟩
          rw [ho] at HOR eo
          have io : (0 : Int) < (o : Int) := by omega
          clear ho HCL HOF
          go_wp2_with fail
          go_fit HN.out
          rintro e w3 ⟨rfl, hb3⟩
          have HB3 : Hid (BuiW w.heap.size L w3 ∧ Below w.heap.size wr w3 ∧ w.heap.size ≤ w3.heap.size ∧ TabW w3) := ⟨builder_below HI.out.2 hb3, hb3.mono HSZ.out, Nat.le_trans HSZ.out hb3.size, HT.out _ (HI.out.1.trans (hb3.mono HSZ.out))⟩
          clear hb3
          go_wp2_with fail
          go_fit (HOR.out _ HB3.out.2.2.2)
          rintro e w4 ⟨rfl, hb4⟩
          have HB4 : Hid (BuiW w.heap.size L w4 ∧ Below w.heap.size wr w4 ∧ w.heap.size ≤ w4.heap.size) := ⟨builder_below HB3.out.1 hb4, HB3.out.2.1.trans (hb4.mono HB3.out.2.2.1), Nat.le_trans HB3.out.2.2.1 hb4.size⟩
          clear hb4
          go_wp2_with fail
          go_fit (HWS.out _ HB4.out.1 HB4.out.2.2)
          rintro e w6 ⟨rfl, hB6, hb6⟩
          have H6 := HFin.out w6 (HB4.out.2.1.trans hb6) (by rw [HC.out]; show Lib.IsBuilderF _ _ _ _ (Lib.byteCells (L ++ (s.extract p x).data.toList)) _; rw [Lib.byteCells_append]; exact .inr hB6)
          clear hB6 hb6
          go_wp2
          go_roundw
          case rel => exact ⟨j + 1, x, rfl, hxs, HX.out.2, H6⟩
          case measure => simp [intOf]; have := HX.out.1; omega
        · have HC : Hid (C = noB) := by show C = _; rw [HCL.out, if_neg (fun h => by rcases h.2 with h | h | h; exact e10 h; exact e9 h; exact eo h)]
          obtain ⟨o, ho⟩ : ∃ o, ofN (R : Int) = o := ⟨_, rfl⟩
          rw [ho] at HOR eo
          have io : (o : Int) = 0 := by omega
          rw [io] at HOR
          clear ho HCL HOF
          go_wp2_with fail
          go_fit HN.out
          rintro e w3 ⟨rfl, hb3⟩
          have HB3 : Hid (BuiW w.heap.size L w3 ∧ Below w.heap.size wr w3 ∧ w.heap.size ≤ w3.heap.size ∧ TabW w3) := ⟨builder_below HI.out.2 hb3, hb3.mono HSZ.out, Nat.le_trans HSZ.out hb3.size, HT.out _ (HI.out.1.trans (hb3.mono HSZ.out))⟩
          clear hb3
          go_wp2_with fail
          go_fit (HOR.out _ HB3.out.2.2.2)
          rintro e w4 ⟨rfl, hb4⟩
          have HB4 : Hid (BuiW w.heap.size L w4 ∧ Below w.heap.size wr w4 ∧ w.heap.size ≤ w4.heap.size) := ⟨builder_below HB3.out.1 hb4, HB3.out.2.1.trans (hb4.mono HB3.out.2.2.1), Nat.le_trans HB3.out.2.2.1 hb4.size⟩
          clear hb4
          have H6 := HFin.out w4 HB4.out.2.1 (by rw [HC.out]; show Lib.IsBuilderF _ _ _ _ (Lib.byteCells (L ++ [])) _; rw [List.append_nil]; exact HB4.out.1)
          go_wp2
          go_roundw
          case rel => exact ⟨j + 1, x, rfl, hxs, HX.out.2, H6⟩
          case measure => simp [intOf]; have := HX.out.1; omega
--LOOPEND
    · have j1 : (s.size : Int) ≤ (p : Int) := by omega
      have hje : j = (stA s).length := by
        have h1 := HJ.out
        rcases Nat.lt_or_ge j (stA s).length with h | h
        · have := (posN_lt s j).1 h; omega
        · omega
      have h2 := HI.out.2
      rw [hje, List.take_length] at h2
      have H6 := Lib.hid (Tryd.Builder_String_any_f w.heap.size w.heap.size _ wr h2 HI.out.1.size)
      have HBw := Lib.hid HI.out.1
      clear h2 HI HJ hje
      go_wp2_with fail
      go_fit (H6.out)
      rintro e w4 ⟨rfl, _, hb4⟩
      go_wp2
      go_ret
      exact ⟨rfl, HBw.out.trans hb4⟩
end Go.Proofs.YtdnldfgolbcjiaaDoor
