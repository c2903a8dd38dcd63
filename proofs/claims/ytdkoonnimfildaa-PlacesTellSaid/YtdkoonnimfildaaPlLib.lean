/-
  strings, one byte looked for: LastIndex, IndexByte, Cut, HasSuffix of a line feed: what each call returns. Texts of at most a million bytes where a walk goes over them.
-/
import Derived.Test.YtdkoonnimfildaaPlN
import Derived.Test.YtdkoonnimfildaaList
import Derived.Shelf.Strings.Search1
import Derived.Lib.IndexLaws
import Derived.Deep.DeepFit
namespace Go.Proofs.Ytdkoonnimfildaa
open Go.RowKit Go.Shelf

/-- Where a byte stands last, below k; -1 if nowhere. -/
def lastB (b : List UInt8) : Nat → Int
  | 0 => -1
  | k + 1 => if nlAt b k then (k : Int) else lastB b k
theorem lastB_start (b : List UInt8) : ∀ k, lastB b k + 1 = (startF b k : Int)
  | 0 => rfl
  | k + 1 => by
    unfold lastB startF
    by_cases h : nlAt b k
    · rw [if_pos h, if_pos h]; omega
    · rw [if_neg h, if_neg h]; exact lastB_start b k

theorem nl_bt (s : ByteArray) (k : Nat) (h : k < s.size) : nlAt s.data.toList k ↔ s[k] = 10 := by
  unfold nlAt
  rw [List.getElem?_eq_getElem (by rw [len_bytes]; exact h), Option.some.injEq]
  exact Iff.rfl

set_option maxHeartbeats 1000000 in
theorem lastByte_any (s : ByteArray) (w : World) (hs : s.size ≤ 1000000) :
    Calls Try.prog 33 #[.string s, .int .u8 10] w fun e w' => e = .returned (.int .i64 (lastB s.data.toList s.size)) ∧ w' = w := by
  obtain ⟨R, hR⟩ : ∃ R, lastB s.data.toList s.size = R := ⟨_, rfl⟩
  rw [hR]
  have HR := Lib.hid hR
  clear hR
  go_enter Try.func33, Try.ntmps33
  go_wp2
  go_loopw [5] (fun s5 wr => ∃ (i : Nat) (j : Int), s5 = .int .i64 j ∧ j = (i : Int) - 1 ∧ wr = w ∧ i ≤ s.size ∧ Hid (lastB s.data.toList i = R)) (fun s5 _ => (intOf s5 + 1).toNat)
  case atStart => exact ⟨s.size, _, rfl, rfl, rfl, Nat.le_refl _, HR⟩
  case round =>
    obtain ⟨i, j, rfl, hj, rfl, hi, I⟩ := hrel
    by_cases h0 : 0 ≤ j
    · obtain ⟨k, rfl⟩ : ∃ k : Nat, (k : Int) = j := ⟨j.toNat, by omega⟩
      obtain rfl : i = k + 1 := by omega
      clear hj h0
      have hk : k < s.size := by omega
      have hb := nl_bt s k hk
      by_cases hn : nlAt s.data.toList k
      · have hb2 : s[k] = 10 := hb.1 hn
        have E : Hid (R = (k : Int)) := by
          have := I.out
          unfold lastB at this
          rw [if_pos hn] at this
          exact this.symm
        clear I hb hn
        go_wp2
        go_ret
        exact ⟨by rw [E.out]; rfl, rfl⟩
      · have hb2 : ((s[k].toNat : Int) == 10) = false := by
          have h1 : s[k] ≠ 10 := fun h => hn (hb.2 h)
          have h2 : s[k].toNat ≠ 10 := fun h => h1 (UInt8.toNat_inj.1 h)
          exact beq_false_of_ne (by omega)
        have E : Hid (lastB s.data.toList k = R) := by
          have := I.out
          unfold lastB at this
          rw [if_neg hn] at this
          exact this
        clear I hb hn
        go_wp2
        go_roundw
        case rel => exact ⟨k, _, rfl, rfl, trivial, by omega, E⟩
        case measure => simp [intOf]
    · obtain rfl : i = 0 := by omega
      have E : Hid (R = -1) := I.out.symm
      clear I
      go_wp2
      go_ret
      exact ⟨by rw [E.out]; rfl, rfl⟩

theorem lastIndex_any (s : ByteArray) (w : World) (hs : s.size ≤ 1000000) :
    Calls Try.prog 26 #[.string s, .string ⟨#[10]⟩] w fun e w' => e = .returned (.int .i64 (lastB s.data.toList s.size)) ∧ w' = w := by
  have H := Lib.hid (lastByte_any s w hs)
  go_enter Try.func26, Try.ntmps26
  go_wp2_with fail
  go_fit H.out
  rintro e w' ⟨rfl, rfl⟩
  go_wp2
  go_ret
  exact ⟨rfl, rfl⟩

/-- Where a line feed stands first, from the front; -1 if nowhere. -/
def nlI (b : List UInt8) : Int := Lib.indexByte b 10
theorem liteByte_any (s : ByteArray) (w : World) :
    Calls Try.prog 47 #[.string s, .int .u8 10] w fun e w' => e = .returned (.int .i64 (nlI s.data.toList)) ∧ w' = w := by
  go_enter Try.func47, Try.ntmps47
  go_wp2
  rw [run_callFunc_extern Try.func51 (by kernel_rfl) (by kernel_rfl) (by kernel_rfl) (e := Extern.BytealgIndexByte.indexByte) (by kernel_rfl), Lib.run_indexByteString]
  simp only [Result.andThen]
  rw [Oper.upon_value]
  go_wp2
  go_ret
  exact ⟨rfl, rfl⟩
theorem indexByte_any (s : ByteArray) (w : World) :
    Calls Try.prog 40 #[.string s, .int .u8 10] w fun e w' => e = .returned (.int .i64 (nlI s.data.toList)) ∧ w' = w := by
  have H := Lib.hid (liteByte_any s w)
  go_enter Try.func40, Try.ntmps40
  go_wp2_with fail
  go_fit H.out
  rintro e w' ⟨rfl, rfl⟩
  go_wp2
  go_ret
  exact ⟨rfl, rfl⟩
set_option maxRecDepth 100000 in
theorem liteIndex_any (s : ByteArray) (w : World) :
    Calls Try.prog 43 #[.string s, .string ⟨#[10]⟩] w fun e w' => e = .returned (.int .i64 (nlI s.data.toList)) ∧ w' = w := by
  by_cases h : s = ⟨#[10]⟩
  · subst h
    obtain ⟨R, hR⟩ : ∃ R, nlI (ByteArray.mk #[10]).data.toList = R := ⟨_, rfl⟩
    rw [hR]
    have E : nlI ([10] : List UInt8) = 0 := by decide
    obtain rfl : R = 0 := hR.symm.trans E
    clear hR E
    go_enter Try.func43, Try.ntmps43
    go_wp2
    go_ret
    exact ⟨rfl, rfl⟩
  · have hf : ([10] == s.toList) = false := by
      refine beq_false_of_ne fun e => h ?_
      refine ba_ext ?_
      rw [ByteArray.toList_eq] at e
      exact e.symm
    have H := Lib.hid (liteByte_any s w)
    clear h
    go_enter Try.func43, Try.ntmps43
    go_wp2_with fail
    go_fit H.out
    rintro e w' ⟨rfl, rfl⟩
    go_wp2
    go_ret
    exact ⟨rfl, rfl⟩

/-- Where the first line feed stands, if there is one. -/
theorem nlI_says (b : List UInt8) : (∃ k : Nat, nlI b = (k : Int) ∧ k < b.length ∧ nlAt b k ∧ ∀ j, j < k → ¬ nlAt b j) ∨ (nlI b = -1 ∧ ∀ j, ¬ nlAt b j) := by
  have hg := Lib.indexByte_ge b 10
  by_cases h : nlI b = -1
  · exact .inr ⟨h, fun j => Lib.indexByte_none h j⟩
  · obtain ⟨k, hk⟩ : ∃ k : Nat, nlI b = (k : Int) := ⟨(nlI b).toNat, by unfold nlI at h ⊢; omega⟩
    obtain ⟨h1, h2⟩ := Lib.indexByte_some hk
    exact .inl ⟨k, hk, nlAt_lt h1, h1, h2⟩
theorem drop_nl (b : List UInt8) (a j : Nat) : nlAt (b.drop a) j ↔ nlAt b (a + j) := by
  unfold nlAt
  rw [List.getElem?_drop]
/-- The text from a place on, up to the first line feed, is as long as its line from there on. -/
theorem endN_nlI (b : List UInt8) (a : Nat) (h : a ≤ b.length) : (∃ k : Nat, nlI (b.drop a) = (k : Int) ∧ endN b a = a + k ∧ a + k < b.length) ∨ (nlI (b.drop a) = -1 ∧ endN b a = b.length) := by
  rcases nlI_says (b.drop a) with ⟨k, h1, h2, h3, h4⟩ | ⟨h1, h2⟩
  · rw [List.length_drop] at h2
    refine .inl ⟨k, h1, endN_uniq b a _ (by omega) (by omega) (fun j hj1 hj2 => ?_) (.inr ((drop_nl b a k).1 h3)), by omega⟩
    have := h4 (j - a) (by omega)
    rwa [drop_nl, show a + (j - a) = j by omega] at this
  · refine .inr ⟨h1, endN_uniq b a _ h (Nat.le_refl _) (fun j hj1 hj2 => ?_) (.inl rfl)⟩
    have := h2 (j - a)
    rwa [drop_nl, show a + (j - a) = j by omega] at this

/-- What is ahead of the first line feed. -/
def aheadS (s : ByteArray) : ByteArray := if nlI s.data.toList = -1 then s else s.extract 0 (nlI s.data.toList).toNat
theorem aheadS_size (s : ByteArray) (a : Nat) (h : a ≤ s.size) : a + (aheadS (s.extract a s.size)).size = endN s.data.toList a := by
  have hl := len_bytes s
  have e : (s.extract a s.size).data.toList = s.data.toList.drop a := by
    rw [ex_data, List.take_of_length_le (by rw [List.length_drop]; omega)]
  have hz := ex_size s a s.size (Nat.le_refl _)
  unfold aheadS
  rw [e]
  rcases endN_nlI s.data.toList a (by omega) with ⟨k, h1, h2, h3⟩ | ⟨h1, h2⟩
  · rw [h1, if_neg (by omega), h2, ex_size _ _ _ (by rw [Int.toNat_natCast]; omega)]
    simp
  · rw [h1, if_pos rfl, h2]; omega

set_option maxHeartbeats 1000000 in
theorem liteCut_any (s : ByteArray) (w : World) (hs : s.size ≤ 1000000) :
    Calls Try.prog 35 #[.string s, .string ⟨#[10]⟩] w fun e w' => (∃ b ok, e = .returned (.tuple #[.string (aheadS s), .string b, .bool ok])) ∧ Below w.heap.size w w' := by
  have H := Lib.hid (liteIndex_any s w)
  rcases nlI_says s.data.toList with ⟨k, h1, h2, -, -⟩ | ⟨h1, -⟩
  · rw [h1] at H
    rw [len_bytes] at h2
    have E : Hid (aheadS s = s.extract 0 k) := by
      show aheadS s = _
      unfold aheadS
      rw [h1, if_neg (by omega), Int.toNat_natCast]
    clear h1
    go_enter Try.func35, Try.ntmps35
    go_wp2_with fail
    go_fit H.out
    rintro e w' ⟨rfl, rfl⟩
    go_wp2
    go_quiet (fail)
    go_wp2
    go_ret3
    exact ⟨⟨_, _, by rw [E.out]; rfl⟩, below_drewN (Below.refl _ _) _⟩
  · rw [h1] at H
    have E : Hid (aheadS s = s) := by
      show aheadS s = _
      unfold aheadS
      rw [h1, if_pos rfl]
    clear h1
    go_enter Try.func35, Try.ntmps35
    go_wp2_with fail
    go_fit H.out
    rintro e w' ⟨rfl, rfl⟩
    go_wp2
    go_ret3
    exact ⟨⟨_, _, by rw [E.out]; rfl⟩, Below.refl _ _⟩
theorem cut_any (s : ByteArray) (w : World) (hs : s.size ≤ 1000000) :
    Calls Try.prog 28 #[.string s, .string ⟨#[10]⟩] w fun e w' => (∃ b ok, e = .returned (.tuple #[.string (aheadS s), .string b, .bool ok])) ∧ Below w.heap.size w w' := by
  have H := Lib.hid (liteCut_any s w hs)
  go_enter Try.func28, Try.ntmps28
  go_wp2_with fail
  go_fit H.out
  rintro e w' ⟨⟨b, ok, rfl⟩, hb⟩
  go_wp2
  go_ret3
  exact ⟨⟨_, _, rfl⟩, hb⟩

/-- Is there a line feed at the end? -/
def endsB (s : ByteArray) : Bool := (s.extract (s.size - 1) s.size).toList == [10]
theorem endsB_iff (s : ByteArray) (h : 1 ≤ s.size) : endsB s = true ↔ nlAt s.data.toList (s.size - 1) := by
  have hl := len_bytes s
  have hd : (s.extract (s.size - 1) s.size).data.toList = [s.data.toList[s.size - 1]'(by omega)] := by
    rw [ex_data, List.drop_eq_getElem_cons (by omega), List.drop_of_length_le (by omega), show s.size - (s.size - 1) = 1 by omega]
    rfl
  unfold endsB nlAt
  rw [ByteArray.toList_eq, hd, List.getElem?_eq_getElem (by omega)]
  simp
theorem hasSufL_any (s : ByteArray) (w : World) (h0 : 1 ≤ s.size) (hs : s.size ≤ 1000000) :
    Calls Try.prog 41 #[.string s, .string ⟨#[10]⟩] w fun e w' => e = .returned (.bool (endsB s)) ∧ w' = w := by
  obtain ⟨R, hR⟩ : ∃ R, endsB s = R := ⟨_, rfl⟩
  rw [hR]
  unfold endsB at hR
  cases R
  · go_enter Try.func41, Try.ntmps41
    go_wp2
    go_ret
    exact ⟨rfl, rfl⟩
  · go_enter Try.func41, Try.ntmps41
    go_wp2
    go_ret
    exact ⟨rfl, rfl⟩
theorem hasSuf_any (s : ByteArray) (w : World) (h0 : 1 ≤ s.size) (hs : s.size ≤ 1000000) :
    Calls Try.prog 32 #[.string s, .string ⟨#[10]⟩] w fun e w' => e = .returned (.bool (endsB s)) ∧ w' = w := by
  have H := Lib.hid (hasSufL_any s w h0 hs)
  go_enter Try.func32, Try.ntmps32
  go_wp2_with fail
  go_fit H.out
  rintro e w' ⟨rfl, rfl⟩
  go_wp2
  go_ret
  exact ⟨rfl, rfl⟩
end Go.Proofs.Ytdkoonnimfildaa
